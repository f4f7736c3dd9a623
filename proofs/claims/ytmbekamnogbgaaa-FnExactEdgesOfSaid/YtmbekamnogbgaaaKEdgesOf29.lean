/-
Texts in one: what EdgesOf stands on, part 29. Conditions: those of each.
-/
import Derived.Test.YtmbekamnogbgaaaKEdgesOf28

/-
Which lists are holds of a mesh: the program. Conditions: none beyond that both lie in memory.
-/
namespace Go.Proofs.Ytmbekamnogbgaaa
open Go Fk Go.RowKit
set_option linter.unusedVariables false
set_option maxRecDepth 8000

/-- A hold of a list is in its place. -/
def stepB (n : Nat) (hs : List HC) (k : Nat) : Bool := holdB (hs.getD k hd0) && (inB n (hs.getD k hd0).1 && (decide (k = 0) || decide ((hs.getD (k - 1) hd0).1 < (hs.getD k hd0).1)))
def goodB (n : Nat) (hs : List HC) : Bool := (List.range hs.length).all (stepB n hs)
def areB (cs : List C3) (ts : List (List Int)) (hs : List HC) : Bool := validB cs ts && goodB cs.length hs
theorem good_not {n : Nat} {hs : List HC} {k : Nat} (hk : k < hs.length) (h : stepB n hs k = false) : goodB n hs = false := by
  rw [Bool.eq_false_iff]
  intro hh
  have := List.all_eq_true.1 hh k (List.mem_range.2 hk)
  rw [this] at h; cases h
theorem good_all {n : Nat} {hs : List HC} (h : ∀ j, j < hs.length → stepB n hs j = true) : goodB n hs = true := by
  unfold goodB
  rw [List.all_eq_true]
  intro j hj
  exact h j (List.mem_range.1 hj)
theorem good_at {n : Nat} {hs : List HC} (h : goodB n hs = true) {k : Nat} (hk : k < hs.length) : stepB n hs k = true := List.all_eq_true.1 h k (List.mem_range.2 hk)
theorem good_rise {n : Nat} {hs : List HC} (h : ∀ j, j < hs.length → holdB (hs.getD j hd0) = true) : riseB n (hs.map (·.1)) = goodB n hs := by
  have hg : ∀ j, j < hs.length → (hs.map (·.1)).getD j 0 = (hs.getD j hd0).1 := by intro j hj; simp [List.getD, hj]
  unfold riseB goodB
  rw [List.length_map, Bool.eq_iff_iff, List.all_eq_true, List.all_eq_true]
  have he : ∀ j, j ∈ List.range hs.length → stepI n (hs.map (·.1)) j = stepB n hs j := by
    intro j hj
    have hj' := List.mem_range.1 hj
    unfold stepI stepB
    rw [hg j hj', h j hj', Bool.true_and]
    by_cases h0 : j = 0
    · rw [decide_eq_true h0]; simp
    · rw [hg (j - 1) (by omega)]
  constructor
  · intro hh j hj; rw [← he j hj]; exact hh j hj
  · intro hh j hj; rw [he j hj]; exact hh j hj
/-- The places of the first holds, in a list of one's own. -/
def Pl (hs : List HC) (n k : Nat) (w : World) (g : Nat) : Prop := (g < w.heap.size ∧ ∀ j, w.frozen? ⟨g, j, none⟩ = false) ∧ (∀ j, j < k → w.cell? ⟨g, j, none⟩ = some (.int .i64 (hs.getD j hd0).1)) ∧ ∀ j, k ≤ j → j < n → w.cell? ⟨g, j, none⟩ = some (.int .i64 0)
theorem Pl.below {hs : List HC} {n k g : Nat} {W w : World} (hb : Below W.heap.size W w) (h : Pl hs n k W g) : Pl hs n k w g :=
  ⟨⟨Nat.lt_of_lt_of_le h.1.1 hb.size, fun j => by rw [hb.frozen (p := ⟨g, j, none⟩) h.1.1]; exact h.1.2 j⟩, fun j hj => cell_below hb (h.2.1 j hj), fun j h1 h2 => cell_below hb (h.2.2 j h1 h2)⟩
theorem Pl.put {hs : List HC} {n k g : Nat} {w : World} (h : Pl hs n k w g) (hk : k < n) : Pl hs n (k + 1) (w.setCell ⟨g, k, none⟩ (.int .i64 (hs.getD k hd0).1)) g := by
  refine ⟨⟨by simpa using h.1.1, fun j => by simpa using h.1.2 j⟩, fun j hj => ?_, fun j h1 h2 => ?_⟩
  · by_cases hjk : j = k
    · subst hjk
      rw [World.cell?_setCell_same _ _ _ (h.2.2 j (Nat.le_refl _) hk)]
    · rw [World.cell?_setCell_other _ _ _ _ (by simp <;> omega), h.2.1 j (by omega)]
  · rw [World.cell?_setCell_other _ _ _ _ (by simp <;> omega), h.2.2 j (by omega) h2]
theorem Pl.is {hs : List HC} {n g : Nat} {w : World} (h : Pl hs n n w g) (hn : hs.length = n) (hm : n ≤ maxLen) (hwf : ∀ s ∈ hs, (Lit.int .i64 s.1).wf = true) : IsIs w (some ⟨g, 0, none⟩) n n (hs.map (·.1)) := by
  refine ⟨by rw [List.length_map, hn], Nat.le_refl _, hm, fun z hz => ?_, (fun e => by cases e), fun x hx i hi => ?_⟩
  · obtain ⟨s, hs1, rfl⟩ := List.mem_map.1 hz
    exact hwf s hs1
  · cases hx
    have : (hs.map (·.1)).getD i 0 = (hs.getD i hd0).1 := by simp [List.getD, show i < hs.length by omega]
    rw [this, addr_add', Nat.zero_add]
    exact h.2.1 i hi
theorem infoZ : (Try.prog.info? 2).map (fun i => (i.zero, i.size, i.bytes)) = some (some (.int .i64 0), 1, 8) := by kernel_rfl
set_option maxHeartbeats 2000000 in
theorem impl_AreHolds (pa ta ha : Option Addr) (pl pc tl tc hl hc : Nat) (cs : List C3) (ts : List (List Int)) (hs : List HC) (w : World) (hp : IsVs w pa pl pc cs) (ht : IsTs w ta tl tc ts) (hh : IsHs w ha hl hc hs) (hsm : hl ≤ 1048576) :
    Calls Try.prog 92 #[.agg #[.slice pa pl pc, .slice ta tl tc], .slice ha hl hc] w fun e w' => e = .returned (.bool (areB cs ts hs)) ∧ Below w.heap.size w w' := by
  have ui := Try.underlying29
  have uh := Try.underlying117
  have u := Try.underlying2
  obtain ⟨j0, hj, hy0, hy1, hy2⟩ := info_parts infoZ
  have BX : Hid (Bx w [(w.heap.size, [.slice pa pl pc, .slice ta tl tc])] (w.alloc (.cells #[.slice pa pl pc, .slice ta tl tc] 29))) := Lib.hid ((Bx.nil w).box (vs := [.slice pa pl pc, .slice ta tl tc]) (t := 29))
  have hpl := hp.1
  have hll := hh.1
  have hwf := hh.2.2.2.1
  have hm : hl ≤ 9223372036854775807 := by have h1 := hh.2.1; have h2 := hh.2.2.1; unfold maxLen at h2; omega
  have JV := impl_ValidMesh _ _ _ _ _ _ cs ts (w.alloc (.cells #[.slice pa pl pc, .slice ta tl tc] 29)) (hp.below BX.out.bel) (ht.below BX.out.bel)
  have HH := Lib.hid hh
  have HWF := Lib.hid (fun s hs => (hwf s hs).1)
  unfold areB
  rw [hpl]
  clear hp ht hh hwf
  cases hv : validB cs ts
  · rw [hv] at JV
    have JV := Lib.hid JV
    clear hv hpl
    go_enter Try.func92, Try.ntmps92
    go_wp2_with fail
    generalize (w.alloc (.cells #[.slice pa pl pc, .slice ta tl tc] 29)) = W at *
    refine JV.out.mono ?_
    rintro e w1 ⟨rfl, hB1⟩
    have BX1 := Lib.hid (BX.out.call hB1)
    clear hB1
    go_wp2
    go_ret
    exact ⟨rfl, BX1.out.bel⟩
  · rw [hv] at JV
    have JV := Lib.hid JV
    have h64 : pl ≤ 64 := by have : cs.length ≤ 64 := by { unfold validB at hv; simp at hv; exact hv.1.1 }; omega
    clear hv
    go_enter Try.func92, Try.ntmps92
    go_wp2_with fail
    generalize (w.alloc (.cells #[.slice pa pl pc, .slice ta tl tc] 29)) = W at *
    refine JV.out.mono ?_
    rintro e w1 ⟨rfl, hB1⟩
    have BX1 := Lib.hid (BX.out.call hB1)
    clear hB1
    have hmk : (Instr.makeSlice 81 (.int .i64 hl) (.int .i64 hl)).run Try.prog w1 = .ok (.slice (some ⟨w1.heap.size, 0, none⟩) hl hl) (w1.alloc (.cells (madeCells #[.int .i64 0] hl) 2)) := by
      have := run_make (P := Try.prog) w1 81 2 j0 (.int .i64 0) Try.underlying81 hj hy0 .i64 .i64 hl hl (by omega) (Int.le_refl _) (by rw [hy2]; omega) (by omega)
      rw [this, hy1]; simp; rfl
    have hST : Pl hs hl 0 (w1.alloc (.cells (madeCells #[.int .i64 0] hl) 2)) w1.heap.size := by
      refine ⟨⟨by simp, fun j => by simp⟩, fun j hj => absurd hj (by omega), fun j _ hj => ?_⟩
      have hmc : (madeCells #[.int .i64 0] hl : Array Value)[j]? = some (.int .i64 0) := by
        unfold madeCells
        simp [hj, Nat.mod_one]
      simp [hmc]
    have BS := Lib.hid hST
    have HA : Hid (Below w1.heap.size w1 (w1.alloc (.cells (madeCells #[.int .i64 0] hl) 2))) := Lib.hid ((Below.refl _ _).alloc (Nat.le_refl _) _)
    clear hST
    go_wp2
    generalize (w1.alloc (.cells (madeCells #[.int .i64 0] hl) 2)) = W2 at *
    obtain ⟨g, hg⟩ : ∃ g, g = w1.heap.size := ⟨_, rfl⟩
    rw [← hg] at BS ⊢
    have HGS := Lib.hid hg
    clear hg hmk
    go_loopw [16] (fun i w' => ∃ k : Nat, k ≤ hl ∧ i = .int .i64 k ∧ Aside (Pl hs hl k w' g ∧ Below w1.heap.size w1 w' ∧ ∀ j, j < k → holdB (hs.getD j hd0) = true)) (fun i _ => hl - (intOf i).toNat)
    case atStart => exact ⟨0, Nat.zero_le _, rfl, BS.out, HA.out, fun j hj => absurd hj (by omega)⟩
    case round =>
      obtain ⟨k, hk, rfl, hA⟩ := hrel
      obtain ⟨hbs, hB, hok⟩ := hA.out
      have HB := Lib.hid hB
      have BK := Lib.hid hbs
      have OK := Lib.hid hok
      have BXK := Lib.hid (BX1.out.call hB)
      clear hA hB hbs hok
      by_cases hlt : k < hl
      · obtain ⟨b, o, hha, hcell⟩ := (HH.out.below BXK.out.bel).some (by omega)
        obtain ⟨h, hq, hi⟩ := hcell k hlt
        have hk0 : (0 : Int) ≤ (k : Int) := by omega
        have hk1 : (k : Int) < (hl : Int) := by omega
        have hstep : stepB pl hs k = (holdB (hs.getD k hd0) && (inB pl (hs.getD k hd0).1 && (decide (k = 0) || decide ((hs.getD (k - 1) hd0).1 < (hs.getD k hd0).1)))) := rfl
        have JI := Lib.hid (fun w => impl_IsHold h (hs.getD k hd0) w hi)
        have hpz := Lib.hid hi.1
        have hlk : k < hs.length := by omega
        have c0 := hq 0 (by omega)
        have c1 := hq 1 (by omega)
        have c2 := hq 2 (by omega)
        have c3 := hq 3 (by omega)
        have c4 := hq 4 (by omega)
        have c5 := hq 5 (by omega)
        have c6 := hq 6 (by omega)
        have c7 := hq 7 (by omega)
        simp only [HW.l, List.getElem?_cons_zero, List.getElem?_cons_succ, Nat.add_zero] at c0 c1 c2 c3 c4 c5 c6 c7
        rw [hha]
        have HHA := Lib.hid hha
        have BB0 := Lib.hid ((Bx.nil wr).box (vs := h.l) (t := 117))
        clear hcell hq hi hha
        have BB := BB0
        change Hid (Bx wr _ (wr.alloc (HBox h 117))) at BB
        cases hb : holdB (hs.getD k hd0)
        · rw [hb] at JI hstep
          have HR := Lib.hid (good_not (n := pl) hlk (by rw [hstep]; rfl))
          clear hb hstep
          go_wp2_with fail
          change Calls _ _ _ (wr.alloc (HBox h 117)) _
          clear c0 c1 c2 c3 c4 c5 c6 c7
          generalize (wr.alloc (HBox h 117)) = W3 at *
          refine (JI.out _).mono ?_
          rintro e w2 ⟨rfl, hB2⟩
          have BX2 := Lib.hid (BXK.out.call (BB.out.call hB2).bel)
          clear hB2
          go_wp2
          go_ret
          exact ⟨ret_bool (by rw [HR.out]; rfl), BX2.out.bel⟩
        · rw [hb] at JI
          have HOK : Hid (∀ j, j < k + 1 → holdB (hs.getD j hd0) = true) := Lib.hid (fun j hj => by
            by_cases hjk : j = k
            · subst hjk; exact hb
            · exact OK.out j (by omega))
          clear hb hstep
          go_wp2_with fail
          change Calls _ _ _ (wr.alloc (HBox h 117)) _
          clear c0 c1 c2 c3 c4 c5 c6 c7
          generalize (wr.alloc (HBox h 117)) = W3 at *
          generalize wr.heap.size = PB at *
          refine (JI.out _).mono ?_
          rintro e w2 ⟨rfl, hB2⟩
          have BX2 := Lib.hid (BB.out.call hB2)
          have BK2 := Lib.hid (BK.out.below BX2.out.bel)
          have HB2 := Lib.hid (HB.out.trans (BX2.out.bel.mono HB.out.size))
          have m0 := (BX2.out.mem (.head _)) 0 _ rfl
          have hgc := BK2.out.2.2 k (Nat.le_refl _) hlt
          have hgf := BK2.out.1.2 k
          have hgs := BK2.out.1.1
          clear hB2
          go_wp2
          go_roundw
          case rel => exact ⟨k + 1, by omega, by go_num, by rw [hpz.out]; exact BK2.out.put hlt, HB2.out.setCell (p := ⟨g, k, none⟩) (by rw [HGS.out]; exact Nat.le_refl _) _, HOK.out⟩
          case measure => simp [intOf]; omega
      · obtain rfl : k = hl := by omega
        have JX := Lib.hid (impl_isIndexSet (some ⟨g, 0, none⟩) k k pl (hs.map (·.1)) wr (BK.out.is hll (by unfold maxLen; omega) HWF.out) (by omega))
        have HR := Lib.hid (good_rise (n := pl) (hs := hs) (fun j hj => OK.out j (by omega)))
        have m0 := (BXK.out.mem (.head _)) 0 _ rfl
        go_wp2_with fail
        refine JX.out.mono ?_
        rintro e w3 ⟨rfl, hw3⟩
        rw [hw3]; clear hw3 w3
        go_wp2
        go_ret
        exact ⟨ret_bool (by rw [HR.out]; rfl), BXK.out.bel⟩
end Go.Proofs.Ytmbekamnogbgaaa


/-
Normals of triangles: what the program and its model return. Conditions: the mesh is valid and has the triangle.
-/
namespace Go.Proofs.Ytmbekamnogbgaaa
open Go Fk Go.RowKit
set_option linter.unusedVariables false
set_option maxRecDepth 8000

def lessC (a b : C3) : C3 := (fop .sub .f32 a.1 b.1, fop .sub .f32 a.2.1 b.2.1, fop .sub .f32 a.2.2 b.2.2)
def crossC (a b : C3) : C3 := (fop .sub .f32 (fop .mul .f32 a.2.1 b.2.2) (fop .mul .f32 a.2.2 b.2.1), fop .sub .f32 (fop .mul .f32 a.2.2 b.1) (fop .mul .f32 a.1 b.2.2), fop .sub .f32 (fop .mul .f32 a.1 b.2.1) (fop .mul .f32 a.2.1 b.1))
def cornerC (cs : List C3) (t : List Int) (i : Nat) : C3 := cs.getD (t.getD i 0).toNat c0
def normalC (cs : List C3) (t : List Int) : C3 := crossC (lessC (cornerC cs t 1) (cornerC cs t 0)) (lessC (cornerC cs t 2) (cornerC cs t 0))
theorem tri_parts {n : Nat} {t : List Int} (h : triB n t = true) : t.length = 3 ∧ (∀ i, i < 3 → 0 ≤ t.getD i 0 ∧ (t.getD i 0).toNat < n) := by
  unfold triB at h
  simp only [Bool.and_eq_true, decide_eq_true_eq] at h
  obtain ⟨⟨h3, ⟨h0, h1⟩, h2⟩, _⟩ := h
  refine ⟨h3, fun i hi => ?_⟩
  have a0 := of_decide_eq_true h0
  have a1 := of_decide_eq_true h1
  have a2 := of_decide_eq_true h2
  have : i = 0 ∨ i = 1 ∨ i = 2 := by omega
  rcases this with rfl | rfl | rfl <;> omega
theorem valid_row {cs : List C3} {ts : List (List Int)} {k : Nat} (h : validB cs ts = true) (hk : k < ts.length) : triB cs.length (ts.getD k []) = true := by
  unfold validB at h
  simp only [Bool.and_eq_true] at h
  have := List.all_eq_true.1 h.2 (ts[k]) (List.getElem_mem hk)
  simpa [List.getD, hk] using this
/-- A corner of a triangle of a valid mesh lies in memory. -/
theorem corner_cell {w : World} {pa : Option Addr} {pl pc : Nat} {cs : List C3} {t : List Int} (hp : IsVs w pa pl pc cs) (ht : triB pl t = true) : ∃ b o, pa = some ⟨b, o, none⟩ ∧ ∀ i, i < 3 → ∃ p q r, w.cell? ⟨b, o + (t.getD i 0).toNat * 3, none⟩ = some (.float .f32 p) ∧ w.cell? ⟨b, o + (t.getD i 0).toNat * 3 + 1, none⟩ = some (.float .f32 q) ∧ w.cell? ⟨b, o + (t.getD i 0).toNat * 3 + 2, none⟩ = some (.float .f32 r) ∧
    FV .f32 p (cornerC cs t i).1 ∧ FV .f32 q (cornerC cs t i).2.1 ∧ FV .f32 r (cornerC cs t i).2.2 := by
  obtain ⟨h3, hi⟩ := tri_parts ht
  obtain ⟨b, o, e, hc⟩ := hp.some (by have := (hi 0 (by decide)).2; omega)
  exact ⟨b, o, e, fun i hi' => hc _ (hi i hi').2⟩
/-- What one operation keeps that makes a box or fills one. -/
def Keep (B : Nat) (w1 w2 : World) : Prop := Below B w1 w2 ∧ w1.heap.size ≤ w2.heap.size ∧ (∀ n i, (∃ v, w1.cell? ⟨n, i, none⟩ = some v) → ∃ v, w2.cell? ⟨n, i, none⟩ = some v) ∧ (∀ n i, n < w1.heap.size → w2.frozen? ⟨n, i, none⟩ = w1.frozen? ⟨n, i, none⟩)
theorem Keep.refl (B : Nat) (w : World) : Keep B w w := ⟨Below.refl _ _, Nat.le_refl _, fun _ _ h => h, fun _ _ _ => rfl⟩
theorem Keep.alloc {B : Nat} {w : World} (hB : B ≤ w.heap.size) (o : Obj) : Keep B w (w.alloc o) :=
  ⟨(Below.refl _ _).alloc hB _, by simp, fun n i ⟨v, hv⟩ => ⟨v, cell_alloc hv⟩, fun n i hn => by
    have hb : Below w.heap.size w (w.alloc o) := (Below.refl _ _).alloc (Nat.le_refl _) _
    exact hb.frozen (p := ⟨n, i, none⟩) hn⟩
theorem Keep.set {B : Nat} {w : World} {n o : Nat} {u : Value} (hB : B ≤ n) : Keep B w (w.setCell ⟨n, o, none⟩ u) :=
  ⟨(Below.refl _ _).setCell hB _, by simp, fun m i ⟨v, hv⟩ => by
    by_cases h : (⟨n, o, none⟩ : Addr) = ⟨m, i, none⟩
    · rw [h]; exact ⟨u, World.cell?_setCell_same _ _ _ hv⟩
    · exact ⟨v, by rw [World.cell?_setCell_other _ _ _ _ h]; exact hv⟩, fun m i _ => by simp⟩
theorem Keep.trans {B : Nat} {w1 w2 w3 : World} (h : Keep B w1 w2) (h' : Keep B w2 w3) : Keep B w1 w3 :=
  ⟨h.1.trans h'.1, Nat.le_trans h.2.1 h'.2.1, fun n i hv => h'.2.2.1 n i (h.2.2.1 n i hv), fun n i hn => (h'.2.2.2 n i (Nat.lt_of_lt_of_le hn h.2.1)).trans (h.2.2.2 n i hn)⟩
/-- A box of three cells that can be written. -/
def Box (B n : Nat) (w : World) : Prop := B ≤ n ∧ n < w.heap.size ∧ (∃ u0 u1 u2, w.cell? ⟨n, 0, none⟩ = some u0 ∧ w.cell? ⟨n, 1, none⟩ = some u1 ∧ w.cell? ⟨n, 2, none⟩ = some u2) ∧ (w.frozen? ⟨n, 0, none⟩ = false ∧ w.frozen? ⟨n, 1, none⟩ = false ∧ w.frozen? ⟨n, 2, none⟩ = false)
theorem Box.keep {B n : Nat} {w1 w2 : World} (h : Box B n w1) (k : Keep B w1 w2) : Box B n w2 := by
  obtain ⟨h1, h2, ⟨u0, u1, u2, e0, e1, e2⟩, f0, f1, f2⟩ := h
  obtain ⟨k1, k2, k3, k4⟩ := k
  obtain ⟨v0, e0⟩ := k3 n 0 ⟨_, e0⟩
  obtain ⟨v1, e1⟩ := k3 n 1 ⟨_, e1⟩
  obtain ⟨v2, e2⟩ := k3 n 2 ⟨_, e2⟩
  exact ⟨h1, Nat.lt_of_lt_of_le h2 k2, ⟨v0, v1, v2, e0, e1, e2⟩, by rw [k4 n 0 h2]; exact f0, by rw [k4 n 1 h2]; exact f1, by rw [k4 n 2 h2]; exact f2⟩
set_option maxHeartbeats 2000000 in
theorem l02Normal (pb : Nat) (pa ta : Option Addr) (pl pc tl tc : Nat) (cs : List C3) (ts : List (List Int)) (k : Nat) (w : World) (c0' : w.cell? ⟨pb, 0, none⟩ = some (.slice pa pl pc)) (c1' : w.cell? ⟨pb, 1, none⟩ = some (.slice ta tl tc)) (hp : IsVs w pa pl pc cs) (ht : IsTs w ta tl tc ts) (hv : validB cs ts = true) (hk : k < tl) :
    Calls Try.prog 161 #[.pointer (some ⟨pb, 0, none⟩), .int .i64 k] w fun e w' => ∃ x y z, e = .returned (vv x y z) ∧ FV .f32 x (normalC cs (ts.getD k [])).1 ∧ FV .f32 y (normalC cs (ts.getD k [])).2.1 ∧ FV .f32 z (normalC cs (ts.getD k [])).2.2 ∧ Below w.heap.size w w' := by
  have uv := Try.underlying34
  have ui := Try.underlying29
  obtain ⟨bt, ot, rfl, hrow⟩ := ht.some (by omega)
  obtain ⟨r1, n1, q1, cr, ir⟩ := hrow k hk
  have htri := valid_row hv (by rw [ht.1]; exact hk)
  rw [hp.1] at htri
  obtain ⟨h3, hin⟩ := tri_parts htri
  have hn1 : n1 = 3 := ir.1.symm.trans h3
  subst hn1
  obtain ⟨br, or, rfl, hz⟩ := ir.some (by decide)
  have z0 := hz 0 (by decide)
  have z1 := hz 1 (by decide)
  have z2 := hz 2 (by decide)
  rw [Nat.add_zero] at z0
  obtain ⟨bp, op, rfl, hcor⟩ := corner_cell hp htri
  obtain ⟨p0, q0, s0, d00, d01, d02, f00, f01, f02⟩ := hcor 0 (by decide)
  obtain ⟨p1, q1', s1, d10, d11, d12, f10, f11, f12⟩ := hcor 1 (by decide)
  obtain ⟨p2, q2', s2, d20, d21, d22, f20, f21, f22⟩ := hcor 2 (by decide)
  have i0 := hin 0 (by decide)
  have i1 := hin 1 (by decide)
  have i2 := hin 2 (by decide)
  unfold normalC crossC lessC
  generalize cornerC cs (ts.getD k []) 0 = C0 at *
  generalize cornerC cs (ts.getD k []) 1 = C1 at *
  generalize cornerC cs (ts.getD k []) 2 = C2 at *
  generalize (ts.getD k []).getD 0 0 = j0 at *
  generalize (ts.getD k []).getD 1 0 = j1 at *
  generalize (ts.getD k []).getD 2 0 = j2 at *
  obtain ⟨i0, i0'⟩ := i0
  obtain ⟨i1, i1'⟩ := i1
  obtain ⟨i2, i2'⟩ := i2
  have m0 : j0 < (pl : Int) := by omega
  have m1 : j1 < (pl : Int) := by omega
  have m2 : j2 < (pl : Int) := by omega
  have hk0 : (0 : Int) ≤ (k : Int) := by omega
  have hk1 : (k : Int) < (tl : Int) := by omega
  have lpb : pb < w.heap.size := World.block_lt_of_cell? w _ c0'
  have lbt : bt < w.heap.size := World.block_lt_of_cell? w _ cr
  have lbr : br < w.heap.size := World.block_lt_of_cell? w _ z0
  have lbp : bp < w.heap.size := World.block_lt_of_cell? w _ d00
  clear hrow hz hcor hin htri ir hp ht h3 hv
  go_enter Try.func161, Try.ntmps161
  go_wp2_with fail
  have hB0 : Below w.heap.size w (w.alloc (.cells #[.float .f32 0, .float .f32 0, .float .f32 0] 34)) := (Below.refl _ _).alloc (Nat.le_refl _) _
  have rz : ∀ i, i < 3 → (w.alloc (.cells #[.float .f32 0, .float .f32 0, .float .f32 0] 34)).cell? ⟨w.heap.size, i, none⟩ = some (.float .f32 0) := by
    intro i hi
    have : i = 0 ∨ i = 1 ∨ i = 2 := by omega
    rcases this with rfl | rfl | rfl <;> go_simp
  have rf : ∀ i, (w.alloc (.cells #[.float .f32 0, .float .f32 0, .float .f32 0] 34)).frozen? ⟨w.heap.size, i, none⟩ = false := by intro i; go_simp
  have c0w := cell_below hB0 c0'
  have z0w := cell_below hB0 z0
  have z1w := cell_below hB0 z1
  have z2w := cell_below hB0 z2
  have d00w := cell_below hB0 d00
  have d01w := cell_below hB0 d01
  have d02w := cell_below hB0 d02
  have d10w := cell_below hB0 d10
  have d11w := cell_below hB0 d11
  have d12w := cell_below hB0 d12
  have d20w := cell_below hB0 d20
  have d21w := cell_below hB0 d21
  have d22w := cell_below hB0 d22
  have hW : (w.alloc (.cells #[.float .f32 0, .float .f32 0, .float .f32 0] 34)).heap.size = w.heap.size + 1 := by simp
  have HB0 := Lib.hid hB0
  have RZ := Lib.hid rz
  have RF := Lib.hid rf
  have HWS := Lib.hid hW
  have C0' := Lib.hid c0'
  have Z0' := Lib.hid z0
  have D0' := Lib.hid d00
  clear c0' c1' z0 z1 z2 d00 d01 d02 d10 d11 d12 d20 d21 d22 cr hB0 rz rf hW lpb lbt lbr lbp
  generalize w.alloc (.cells #[.float .f32 0, .float .f32 0, .float .f32 0] 34) = W at *
  refine Reg.wp_region_mix (C := fun w' => Below W.heap.size W w') (G := fun w1 w2 => Keep W.heap.size w1 w2) (R := fun i v w' => match i with | 0 => v = .pointer (some ⟨pb, 0, none⟩) | 1 => v = .pointer (some ⟨pb, 0, none⟩) | 2 => v = .pointer (some ⟨pb, 0, none⟩) | 3 => v = .slice (some ⟨bp, op, none⟩) pl pc | 4 => v = .slice (some ⟨br, or, none⟩) 3 q1 | 5 => v = .pointer (some ⟨br, or, none⟩) | 6 => v = .int .i64 j0 | 7 => v = .pointer (some ⟨bp, op + j0.toNat * 3, none⟩) | 8 => v = vv p0 q0 s0 | 9 => ∃ n, v = .pointer (some ⟨n, 0, none⟩) ∧ Box W.heap.size n w' | _ => True) (T := fun _ a w' => ∃ n, a.eval (.tmp 6) = .pointer (some ⟨n, 0, none⟩) ∧ W.heap.size ≤ n ∧ n < w'.heap.size ∧ w'.cell? ⟨n, 0, none⟩ = some (.float .f32 p0) ∧ w'.cell? ⟨n, 1, none⟩ = some (.float .f32 q0) ∧ w'.cell? ⟨n, 2, none⟩ = some (.float .f32 s0)) [false, false, false, false, false, false, true, false, false, false, false, false, false, false, true, true, true, true, true, true, true, true, true, false, false, false, false, false, false, false, false, false, false, false, false, false, false, false, false, false, false, false, false, false, false, false]
    (by kernel_rfl) (by kernel_rfl) (by kernel_rfl) ?_ (below_drewN (Below.refl _ _) 1) ?_ ?_
  · intro j v w1 w2 _ hG hR
    match j with
    | 0 => exact hR
    | 1 => exact hR
    | 2 => exact hR
    | 3 => exact hR
    | 4 => exact hR
    | 5 => exact hR
    | 6 => exact hR
    | 7 => exact hR
    | 8 => exact hR
    | 9 => obtain ⟨n, e, hb⟩ := hR; exact ⟨n, e, hb.keep hG⟩
    | _ + 10 => trivial
  · refine ⟨Reg.Obl.mk ?_, Reg.Obl.mk ?_, Reg.Obl.mk ?_, Reg.Obl.mk ?_, Reg.Obl.mk ?_, Reg.Obl.mk ?_, Reg.Obl.mk ?_, Reg.Obl.mk ?_, Reg.Obl.mk ?_, Reg.Obl.mk ?_, Reg.Obl.mk ?_, trivial⟩
    · rintro a w1 hB hx hd K hK
      have t0 : a.tmps[0]?.getD undef = .pointer (some ⟨pb, 0, none⟩) := Reg.slot_val (hx 0 (by kernel_rfl))
      have y0 := cell_below hB c0w
      have y1 := cell_below hB z0w
      have y2 := cell_below hB d00w
      have y3 := cell_below hB d01w
      have y4 := cell_below hB d02w
      go_simp
      exact hK _ _ (fun _ => rfl) (fun h => by cases h) hB (Keep.refl _ _)
    · rintro a w1 hB hx hd K hK
      have t14 : a.tmps[14]?.getD undef = .pointer (some ⟨pb, 0, none⟩) := Reg.slot_val (hd 0 (by kernel_rfl) 14 rfl)
      have y0 := cell_below hB c0w
      have y1 := cell_below hB z0w
      have y2 := cell_below hB d00w
      have y3 := cell_below hB d01w
      have y4 := cell_below hB d02w
      go_simp
      exact hK _ _ (fun _ => rfl) (fun h => by cases h) hB (Keep.refl _ _)
    · rintro a w1 hB hx hd K hK
      have t15 : a.tmps[15]?.getD undef = .pointer (some ⟨pb, 0, none⟩) := Reg.slot_val (hd 1 (by kernel_rfl) 15 rfl)
      have y0 := cell_below hB c0w
      have y1 := cell_below hB z0w
      have y2 := cell_below hB d00w
      have y3 := cell_below hB d01w
      have y4 := cell_below hB d02w
      go_simp
      exact hK _ _ (fun _ => rfl) (fun h => by cases h) hB (Keep.refl _ _)
    · rintro a w1 hB hx hd K hK
      have t16 : a.tmps[16]?.getD undef = .pointer (some ⟨pb, 0, none⟩) := Reg.slot_val (hd 2 (by kernel_rfl) 16 rfl)
      have y0 := cell_below hB c0w
      have y1 := cell_below hB z0w
      have y2 := cell_below hB d00w
      have y3 := cell_below hB d01w
      have y4 := cell_below hB d02w
      go_simp
      exact hK _ _ (fun _ => rfl) (fun h => by cases h) hB (Keep.refl _ _)
    · rintro a w1 hB hx hd K hK
      have t5 : a.tmps[5]?.getD undef = .slice (some ⟨br, or, none⟩) 3 q1 := Reg.slot_val (hx 5 (by kernel_rfl))
      have y0 := cell_below hB c0w
      have y1 := cell_below hB z0w
      have y2 := cell_below hB d00w
      have y3 := cell_below hB d01w
      have y4 := cell_below hB d02w
      go_simp
      exact hK _ _ (fun _ => rfl) (fun h => by cases h) hB (Keep.refl _ _)
    · rintro a w1 hB hx hd K hK
      have t18 : a.tmps[18]?.getD undef = .slice (some ⟨br, or, none⟩) 3 q1 := Reg.slot_val (hd 4 (by kernel_rfl) 18 rfl)
      have y0 := cell_below hB c0w
      have y1 := cell_below hB z0w
      have y2 := cell_below hB d00w
      have y3 := cell_below hB d01w
      have y4 := cell_below hB d02w
      go_simp
      exact hK _ _ (fun _ => rfl) (fun h => by cases h) hB (Keep.refl _ _)
    · rintro a w1 hB hx hd K hK
      have t19 : a.tmps[19]?.getD undef = .pointer (some ⟨br, or, none⟩) := Reg.slot_val (hd 5 (by kernel_rfl) 19 rfl)
      have y0 := cell_below hB c0w
      have y1 := cell_below hB z0w
      have y2 := cell_below hB d00w
      have y3 := cell_below hB d01w
      have y4 := cell_below hB d02w
      go_simp
      exact hK _ _ (fun _ => rfl) (fun h => by cases h) hB (Keep.refl _ _)
    · rintro a w1 hB hx hd K hK
      have t17 : a.tmps[17]?.getD undef = .slice (some ⟨bp, op, none⟩) pl pc := Reg.slot_val (hd 3 (by kernel_rfl) 17 rfl)
      have t20 : a.tmps[20]?.getD undef = .int .i64 j0 := Reg.slot_val (hd 6 (by kernel_rfl) 20 rfl)
      have y0 := cell_below hB c0w
      have y1 := cell_below hB z0w
      have y2 := cell_below hB d00w
      have y3 := cell_below hB d01w
      have y4 := cell_below hB d02w
      go_simp
      exact hK _ _ (fun _ => rfl) (fun h => by cases h) hB (Keep.refl _ _)
    · rintro a w1 hB hx hd K hK
      have t21 : a.tmps[21]?.getD undef = .pointer (some ⟨bp, op + j0.toNat * 3, none⟩) := Reg.slot_val (hd 7 (by kernel_rfl) 21 rfl)
      have y0 := cell_below hB c0w
      have y1 := cell_below hB z0w
      have y2 := cell_below hB d00w
      have y3 := cell_below hB d01w
      have y4 := cell_below hB d02w
      go_simp
      exact hK _ _ (fun _ => rfl) (fun h => by cases h) hB (Keep.refl _ _)
    · rintro a w1 hB hx hd K hK
      go_simp
      refine hK _ _ (fun _ => ⟨_, rfl, hB.size, by simp, ⟨_, _, _, new0, new1, new2⟩, newf, newf, newf⟩) (fun h => by cases h) (hB.alloc hB.size _) (Keep.alloc hB.size _)
    · rintro a w1 hB hx hd K hK
      obtain ⟨n, g6, hn⟩ := hd 9 (by kernel_rfl) 6 rfl
      have t6 := Reg.slot_val g6
      have t22 : a.tmps[22]?.getD undef = vv p0 q0 s0 := Reg.slot_val (hd 8 (by kernel_rfl) 22 rfl)
      have hn' := Lib.hid hn
      obtain ⟨hn1, hn2, ⟨u0, u1, u2, e0, e1, e2⟩, k0, k1, k2⟩ := hn
      have G6 := Lib.hid g6
      clear g6
      go_simp
      have s3 := set3 (u := .float .f32 p0) (v := .float .f32 q0) (t := .float .f32 s0) e0 e1 e2
      refine hK undef _ (fun h => absurd rfl h) (fun _ => ⟨n, G6.out, hn1, by simp; exact hn2, s3⟩) (below_set3 hB hn1) (((Keep.set hn1).trans (Keep.set hn1)).trans (Keep.set hn1))
  · rintro f w1 hB hd hT
    obtain ⟨n, g6, hn⟩ := hd 9 6 rfl
    obtain ⟨n', g6', hn1, hn2, e0, e1, e2⟩ := hT 10 rfl (by decide)
    have hnn : n' = n := by
      have : f 6 = .pointer (some ⟨n', 0, none⟩) := g6'
      rw [g6] at this; simpa using this.symm
    subst hnn
    simp only [Reg.mixL, g6]
    have hz1 := cell_below hB z1w
    have hz2 := cell_below hB z2w
    have hc0 := cell_below hB c0w
    have hd10 := cell_below hB d10w
    have hd11 := cell_below hB d11w
    have hd12 := cell_below hB d12w
    have hd20 := cell_below hB d20w
    have hd21 := cell_below hB d21w
    have hd22 := cell_below hB d22w
    have hr0 := cell_below hB (RZ.out 0 (by decide))
    have hr1 := cell_below hB (RZ.out 1 (by decide))
    have hr2 := cell_below hB (RZ.out 2 (by decide))
    have hws := HWS.out
    have hf0 := frozen_below hB (World.block_lt_of_cell? _ _ (RZ.out 0 (by decide))) (RF.out 0)
    have hf1 := frozen_below hB (World.block_lt_of_cell? _ _ (RZ.out 0 (by decide))) (RF.out 1)
    have hf2 := frozen_below hB (World.block_lt_of_cell? _ _ (RZ.out 0 (by decide))) (RF.out 2)
    have hBW : Below w.heap.size w w1 := HB0.out.trans (hB.mono HB0.out.size)
    have npb : w.heap.size ≠ pb := by have := World.block_lt_of_cell? _ _ C0'.out; simp at this; omega
    have nbr : w.heap.size ≠ br := by have := World.block_lt_of_cell? _ _ Z0'.out; simp at this; omega
    have nbp : w.heap.size ≠ bp := by have := World.block_lt_of_cell? _ _ D0'.out; simp at this; omega
    have nn : w.heap.size ≠ n' := by omega
    clear hT hd g6' c0w z0w z1w z2w d00w d01w d02w d10w d11w d12w d20w d21w d22w hn hB
    go_wp2_with fail
    refine Reg.wp_region_mix (C := fun w' => (w'.cell? ⟨pb, 0, none⟩ = some (.slice (some ⟨bp, op, none⟩) pl pc) ∧ w'.cell? ⟨br, or + 1, none⟩ = some (.int .i64 j1) ∧ w'.cell? ⟨br, or + 2, none⟩ = some (.int .i64 j2) ∧ w'.cell? ⟨bp, op + j1.toNat * 3, none⟩ = some (.float .f32 p1) ∧ w'.cell? ⟨bp, op + j1.toNat * 3 + 1, none⟩ = some (.float .f32 q1') ∧ w'.cell? ⟨bp, op + j1.toNat * 3 + 2, none⟩ = some (.float .f32 s1) ∧ w'.cell? ⟨bp, op + j2.toNat * 3, none⟩ = some (.float .f32 p2) ∧ w'.cell? ⟨bp, op + j2.toNat * 3 + 1, none⟩ = some (.float .f32 q2') ∧ w'.cell? ⟨bp, op + j2.toNat * 3 + 2, none⟩ = some (.float .f32 s2) ∧ w'.cell? ⟨n', 0, none⟩ = some (.float .f32 p0) ∧ w'.cell? ⟨n', 1, none⟩ = some (.float .f32 q0) ∧ w'.cell? ⟨n', 2, none⟩ = some (.float .f32 s0)) ∧ (∃ u0 u1 u2, w'.cell? ⟨w.heap.size, 0, none⟩ = some u0 ∧ w'.cell? ⟨w.heap.size, 1, none⟩ = some u1 ∧ w'.cell? ⟨w.heap.size, 2, none⟩ = some u2) ∧ (w'.frozen? ⟨w.heap.size, 0, none⟩ = false ∧ w'.frozen? ⟨w.heap.size, 1, none⟩ = false ∧ w'.frozen? ⟨w.heap.size, 2, none⟩ = false) ∧ Below w.heap.size w w') (G := fun _ _ => True) (R := fun i v _ => match i with | 0 => v = .pointer (some ⟨pb, 0, none⟩) | 1 => v = .pointer (some ⟨pb, 0, none⟩) | 2 => v = .pointer (some ⟨pb, 0, none⟩) | 3 => v = .slice (some ⟨bp, op, none⟩) pl pc | 4 => v = .slice (some ⟨br, or, none⟩) 3 q1 | 5 => v = .pointer (some ⟨br, or + 1, none⟩) | 6 => v = .int .i64 j1 | 7 => v = .pointer (some ⟨bp, op + j1.toNat * 3, none⟩) | 8 => v = vv p1 q1' s1 | 9 => v = vv p0 q0 s0 | 10 => ∃ a b g, v = vv a b g ∧ FV .f32 a (fop .sub .f32 C1.1 C0.1) ∧ FV .f32 b (fop .sub .f32 C1.2.1 C0.2.1) ∧ FV .f32 g (fop .sub .f32 C1.2.2 C0.2.2) | 11 => v = .pointer (some ⟨pb, 0, none⟩) | 12 => v = .pointer (some ⟨pb, 0, none⟩) | 13 => v = .pointer (some ⟨pb, 0, none⟩) | 14 => v = .slice (some ⟨bp, op, none⟩) pl pc | 15 => v = .slice (some ⟨br, or, none⟩) 3 q1 | 16 => v = .pointer (some ⟨br, or + 2, none⟩) | 17 => v = .int .i64 j2 | 18 => v = .pointer (some ⟨bp, op + j2.toNat * 3, none⟩) | 19 => v = vv p2 q2' s2 | 20 => v = vv p0 q0 s0 | 21 => ∃ a b g, v = vv a b g ∧ FV .f32 a (fop .sub .f32 C2.1 C0.1) ∧ FV .f32 b (fop .sub .f32 C2.2.1 C0.2.1) ∧ FV .f32 g (fop .sub .f32 C2.2.2 C0.2.2) | 22 => ∃ a b g, v = vv a b g ∧ FV .f32 a (fop .sub .f32 (fop .mul .f32 (fop .sub .f32 C1.2.1 C0.2.1) (fop .sub .f32 C2.2.2 C0.2.2)) (fop .mul .f32 (fop .sub .f32 C1.2.2 C0.2.2) (fop .sub .f32 C2.2.1 C0.2.1))) ∧ FV .f32 b (fop .sub .f32 (fop .mul .f32 (fop .sub .f32 C1.2.2 C0.2.2) (fop .sub .f32 C2.1 C0.1)) (fop .mul .f32 (fop .sub .f32 C1.1 C0.1) (fop .sub .f32 C2.2.2 C0.2.2))) ∧ FV .f32 g (fop .sub .f32 (fop .mul .f32 (fop .sub .f32 C1.1 C0.1) (fop .sub .f32 C2.2.1 C0.2.1)) (fop .mul .f32 (fop .sub .f32 C1.2.1 C0.2.1) (fop .sub .f32 C2.1 C0.1))) | _ => True) (T := fun _ a w' => ∃ a b g, w'.cell? ⟨w.heap.size, 0, none⟩ = some (.float .f32 a) ∧ w'.cell? ⟨w.heap.size, 1, none⟩ = some (.float .f32 b) ∧ w'.cell? ⟨w.heap.size, 2, none⟩ = some (.float .f32 g) ∧ FV .f32 a (fop .sub .f32 (fop .mul .f32 (fop .sub .f32 C1.2.1 C0.2.1) (fop .sub .f32 C2.2.2 C0.2.2)) (fop .mul .f32 (fop .sub .f32 C1.2.2 C0.2.2) (fop .sub .f32 C2.2.1 C0.2.1))) ∧ FV .f32 b (fop .sub .f32 (fop .mul .f32 (fop .sub .f32 C1.2.2 C0.2.2) (fop .sub .f32 C2.1 C0.1)) (fop .mul .f32 (fop .sub .f32 C1.1 C0.1) (fop .sub .f32 C2.2.2 C0.2.2))) ∧ FV .f32 g (fop .sub .f32 (fop .mul .f32 (fop .sub .f32 C1.1 C0.1) (fop .sub .f32 C2.2.1 C0.2.1)) (fop .mul .f32 (fop .sub .f32 C1.2.1 C0.2.1) (fop .sub .f32 C2.1 C0.1)))) [false, false, false, false, false, false, false, false, false, false, false, false, false, false, false, false, false, false, false, false, false, false, false, true, true, true, true, true, true, true, true, true, true, true, true, true, true, true, true, true, true, true, true, true, true, true]
      (by kernel_rfl) (by kernel_rfl) (by kernel_rfl) (fun _ _ _ _ _ _ h => h) ⟨⟨hc0, hz1, hz2, hd10, hd11, hd12, hd20, hd21, hd22, e0, e1, e2⟩, ⟨_, _, _, hr0, hr1, hr2⟩, ⟨hf0, hf1, hf2⟩, below_drewN hBW 1⟩ ?_ ?_
    · refine ⟨Reg.Obl.mk ?_, Reg.Obl.mk ?_, Reg.Obl.mk ?_, Reg.Obl.mk ?_, Reg.Obl.mk ?_, Reg.Obl.mk ?_, Reg.Obl.mk ?_, Reg.Obl.mk ?_, Reg.Obl.mk ?_, Reg.Obl.mk ?_, Reg.Obl.mk ?_, Reg.Obl.mk ?_, Reg.Obl.mk ?_, Reg.Obl.mk ?_, Reg.Obl.mk ?_, Reg.Obl.mk ?_, Reg.Obl.mk ?_, Reg.Obl.mk ?_, Reg.Obl.mk ?_, Reg.Obl.mk ?_, Reg.Obl.mk ?_, Reg.Obl.mk ?_, Reg.Obl.mk ?_, Reg.Obl.mk ?_, trivial⟩
      · rintro a w1 ⟨⟨y0, y1, y2, y3, y4, y5, y6, y7, y8, y9, y10, y11⟩, hrb, hfz, hB⟩ hx hd K hK
        have t0 : a.tmps[0]?.getD undef = .pointer (some ⟨pb, 0, none⟩) := Reg.slot_val (hx 0 (by kernel_rfl))
        go_simp
        exact hK _ _ (fun _ => rfl) (fun h => by cases h) ⟨⟨y0, y1, y2, y3, y4, y5, y6, y7, y8, y9, y10, y11⟩, hrb, hfz, hB⟩ trivial
      · rintro a w1 ⟨⟨y0, y1, y2, y3, y4, y5, y6, y7, y8, y9, y10, y11⟩, hrb, hfz, hB⟩ hx hd K hK
        have t23 : a.tmps[23]?.getD undef = .pointer (some ⟨pb, 0, none⟩) := Reg.slot_val (hd 0 (by kernel_rfl) 23 rfl)
        go_simp
        exact hK _ _ (fun _ => rfl) (fun h => by cases h) ⟨⟨y0, y1, y2, y3, y4, y5, y6, y7, y8, y9, y10, y11⟩, hrb, hfz, hB⟩ trivial
      · rintro a w1 ⟨⟨y0, y1, y2, y3, y4, y5, y6, y7, y8, y9, y10, y11⟩, hrb, hfz, hB⟩ hx hd K hK
        have t24 : a.tmps[24]?.getD undef = .pointer (some ⟨pb, 0, none⟩) := Reg.slot_val (hd 1 (by kernel_rfl) 24 rfl)
        go_simp
        exact hK _ _ (fun _ => rfl) (fun h => by cases h) ⟨⟨y0, y1, y2, y3, y4, y5, y6, y7, y8, y9, y10, y11⟩, hrb, hfz, hB⟩ trivial
      · rintro a w1 ⟨⟨y0, y1, y2, y3, y4, y5, y6, y7, y8, y9, y10, y11⟩, hrb, hfz, hB⟩ hx hd K hK
        have t25 : a.tmps[25]?.getD undef = .pointer (some ⟨pb, 0, none⟩) := Reg.slot_val (hd 2 (by kernel_rfl) 25 rfl)
        go_simp
        exact hK _ _ (fun _ => rfl) (fun h => by cases h) ⟨⟨y0, y1, y2, y3, y4, y5, y6, y7, y8, y9, y10, y11⟩, hrb, hfz, hB⟩ trivial
      · rintro a w1 ⟨⟨y0, y1, y2, y3, y4, y5, y6, y7, y8, y9, y10, y11⟩, hrb, hfz, hB⟩ hx hd K hK
        have t5 : a.tmps[5]?.getD undef = .slice (some ⟨br, or, none⟩) 3 q1 := Reg.slot_val (hx 5 (by kernel_rfl))
        go_simp
        exact hK _ _ (fun _ => rfl) (fun h => by cases h) ⟨⟨y0, y1, y2, y3, y4, y5, y6, y7, y8, y9, y10, y11⟩, hrb, hfz, hB⟩ trivial
      · rintro a w1 ⟨⟨y0, y1, y2, y3, y4, y5, y6, y7, y8, y9, y10, y11⟩, hrb, hfz, hB⟩ hx hd K hK
        have t27 : a.tmps[27]?.getD undef = .slice (some ⟨br, or, none⟩) 3 q1 := Reg.slot_val (hd 4 (by kernel_rfl) 27 rfl)
        go_simp
        exact hK _ _ (fun _ => rfl) (fun h => by cases h) ⟨⟨y0, y1, y2, y3, y4, y5, y6, y7, y8, y9, y10, y11⟩, hrb, hfz, hB⟩ trivial
      · rintro a w1 ⟨⟨y0, y1, y2, y3, y4, y5, y6, y7, y8, y9, y10, y11⟩, hrb, hfz, hB⟩ hx hd K hK
        have t28 : a.tmps[28]?.getD undef = .pointer (some ⟨br, or + 1, none⟩) := Reg.slot_val (hd 5 (by kernel_rfl) 28 rfl)
        go_simp
        exact hK _ _ (fun _ => rfl) (fun h => by cases h) ⟨⟨y0, y1, y2, y3, y4, y5, y6, y7, y8, y9, y10, y11⟩, hrb, hfz, hB⟩ trivial
      · rintro a w1 ⟨⟨y0, y1, y2, y3, y4, y5, y6, y7, y8, y9, y10, y11⟩, hrb, hfz, hB⟩ hx hd K hK
        have t26 : a.tmps[26]?.getD undef = .slice (some ⟨bp, op, none⟩) pl pc := Reg.slot_val (hd 3 (by kernel_rfl) 26 rfl)
        have t29 : a.tmps[29]?.getD undef = .int .i64 j1 := Reg.slot_val (hd 6 (by kernel_rfl) 29 rfl)
        go_simp
        exact hK _ _ (fun _ => rfl) (fun h => by cases h) ⟨⟨y0, y1, y2, y3, y4, y5, y6, y7, y8, y9, y10, y11⟩, hrb, hfz, hB⟩ trivial
      · rintro a w1 ⟨⟨y0, y1, y2, y3, y4, y5, y6, y7, y8, y9, y10, y11⟩, hrb, hfz, hB⟩ hx hd K hK
        have t30 : a.tmps[30]?.getD undef = .pointer (some ⟨bp, op + j1.toNat * 3, none⟩) := Reg.slot_val (hd 7 (by kernel_rfl) 30 rfl)
        go_simp
        exact hK _ _ (fun _ => rfl) (fun h => by cases h) ⟨⟨y0, y1, y2, y3, y4, y5, y6, y7, y8, y9, y10, y11⟩, hrb, hfz, hB⟩ trivial
      · rintro a w1 ⟨⟨y0, y1, y2, y3, y4, y5, y6, y7, y8, y9, y10, y11⟩, hrb, hfz, hB⟩ hx hd K hK
        have t6 : a.tmps[6]?.getD undef = .pointer (some ⟨n', 0, none⟩) := Reg.slot_val (hx 6 (by kernel_rfl))
        go_simp
        exact hK _ _ (fun _ => rfl) (fun h => by cases h) ⟨⟨y0, y1, y2, y3, y4, y5, y6, y7, y8, y9, y10, y11⟩, hrb, hfz, hB⟩ trivial
      · rintro a w1 ⟨⟨y0, y1, y2, y3, y4, y5, y6, y7, y8, y9, y10, y11⟩, hrb, hfz, hB⟩ hx hd K hK
        have t31 : a.tmps[31]?.getD undef = vv p1 q1' s1 := Reg.slot_val (hd 8 (by kernel_rfl) 31 rfl)
        have t32 : a.tmps[32]?.getD undef = vv p0 q0 s0 := Reg.slot_val (hd 9 (by kernel_rfl) 32 rfl)
        have hrb' := Lib.hid hrb
        clear hrb
        go_simp
        refine (l01Less _ _ _ _ _ _ _ _ _ _ _ _ _ f10 f11 f12 f00 f01 f02).mono ?_
        rintro en w2 ⟨ra, rb, rc, rfl, ha, hb, hc, hB2⟩
        obtain ⟨u0, u1, u2, x0, x1, x2⟩ := hrb'.out
        have lt := World.block_lt_of_cell? w1 _ x0
        exact hK _ _ (fun _ => ⟨ra, rb, rc, rfl, ha, hb, hc⟩) (fun h => by cases h) ⟨⟨cell_below hB2 y0, cell_below hB2 y1, cell_below hB2 y2, cell_below hB2 y3, cell_below hB2 y4, cell_below hB2 y5, cell_below hB2 y6, cell_below hB2 y7, cell_below hB2 y8, cell_below hB2 y9, cell_below hB2 y10, cell_below hB2 y11⟩, ⟨u0, u1, u2, cell_below hB2 x0, cell_below hB2 x1, cell_below hB2 x2⟩, ⟨frozen_below hB2 lt hfz.1, frozen_below hB2 lt hfz.2.1, frozen_below hB2 lt hfz.2.2⟩, hB.trans (hB2.mono hB.size)⟩ trivial
      · rintro a w1 ⟨⟨y0, y1, y2, y3, y4, y5, y6, y7, y8, y9, y10, y11⟩, hrb, hfz, hB⟩ hx hd K hK
        have t0 : a.tmps[0]?.getD undef = .pointer (some ⟨pb, 0, none⟩) := Reg.slot_val (hx 0 (by kernel_rfl))
        go_simp
        exact hK _ _ (fun _ => rfl) (fun h => by cases h) ⟨⟨y0, y1, y2, y3, y4, y5, y6, y7, y8, y9, y10, y11⟩, hrb, hfz, hB⟩ trivial
      · rintro a w1 ⟨⟨y0, y1, y2, y3, y4, y5, y6, y7, y8, y9, y10, y11⟩, hrb, hfz, hB⟩ hx hd K hK
        have t34 : a.tmps[34]?.getD undef = .pointer (some ⟨pb, 0, none⟩) := Reg.slot_val (hd 11 (by kernel_rfl) 34 rfl)
        go_simp
        exact hK _ _ (fun _ => rfl) (fun h => by cases h) ⟨⟨y0, y1, y2, y3, y4, y5, y6, y7, y8, y9, y10, y11⟩, hrb, hfz, hB⟩ trivial
      · rintro a w1 ⟨⟨y0, y1, y2, y3, y4, y5, y6, y7, y8, y9, y10, y11⟩, hrb, hfz, hB⟩ hx hd K hK
        have t35 : a.tmps[35]?.getD undef = .pointer (some ⟨pb, 0, none⟩) := Reg.slot_val (hd 12 (by kernel_rfl) 35 rfl)
        go_simp
        exact hK _ _ (fun _ => rfl) (fun h => by cases h) ⟨⟨y0, y1, y2, y3, y4, y5, y6, y7, y8, y9, y10, y11⟩, hrb, hfz, hB⟩ trivial
      · rintro a w1 ⟨⟨y0, y1, y2, y3, y4, y5, y6, y7, y8, y9, y10, y11⟩, hrb, hfz, hB⟩ hx hd K hK
        have t36 : a.tmps[36]?.getD undef = .pointer (some ⟨pb, 0, none⟩) := Reg.slot_val (hd 13 (by kernel_rfl) 36 rfl)
        go_simp
        exact hK _ _ (fun _ => rfl) (fun h => by cases h) ⟨⟨y0, y1, y2, y3, y4, y5, y6, y7, y8, y9, y10, y11⟩, hrb, hfz, hB⟩ trivial
      · rintro a w1 ⟨⟨y0, y1, y2, y3, y4, y5, y6, y7, y8, y9, y10, y11⟩, hrb, hfz, hB⟩ hx hd K hK
        have t5 : a.tmps[5]?.getD undef = .slice (some ⟨br, or, none⟩) 3 q1 := Reg.slot_val (hx 5 (by kernel_rfl))
        go_simp
        exact hK _ _ (fun _ => rfl) (fun h => by cases h) ⟨⟨y0, y1, y2, y3, y4, y5, y6, y7, y8, y9, y10, y11⟩, hrb, hfz, hB⟩ trivial
      · rintro a w1 ⟨⟨y0, y1, y2, y3, y4, y5, y6, y7, y8, y9, y10, y11⟩, hrb, hfz, hB⟩ hx hd K hK
        have t38 : a.tmps[38]?.getD undef = .slice (some ⟨br, or, none⟩) 3 q1 := Reg.slot_val (hd 15 (by kernel_rfl) 38 rfl)
        go_simp
        exact hK _ _ (fun _ => rfl) (fun h => by cases h) ⟨⟨y0, y1, y2, y3, y4, y5, y6, y7, y8, y9, y10, y11⟩, hrb, hfz, hB⟩ trivial
      · rintro a w1 ⟨⟨y0, y1, y2, y3, y4, y5, y6, y7, y8, y9, y10, y11⟩, hrb, hfz, hB⟩ hx hd K hK
        have t39 : a.tmps[39]?.getD undef = .pointer (some ⟨br, or + 2, none⟩) := Reg.slot_val (hd 16 (by kernel_rfl) 39 rfl)
        go_simp
        exact hK _ _ (fun _ => rfl) (fun h => by cases h) ⟨⟨y0, y1, y2, y3, y4, y5, y6, y7, y8, y9, y10, y11⟩, hrb, hfz, hB⟩ trivial
      · rintro a w1 ⟨⟨y0, y1, y2, y3, y4, y5, y6, y7, y8, y9, y10, y11⟩, hrb, hfz, hB⟩ hx hd K hK
        have t37 : a.tmps[37]?.getD undef = .slice (some ⟨bp, op, none⟩) pl pc := Reg.slot_val (hd 14 (by kernel_rfl) 37 rfl)
        have t40 : a.tmps[40]?.getD undef = .int .i64 j2 := Reg.slot_val (hd 17 (by kernel_rfl) 40 rfl)
        go_simp
        exact hK _ _ (fun _ => rfl) (fun h => by cases h) ⟨⟨y0, y1, y2, y3, y4, y5, y6, y7, y8, y9, y10, y11⟩, hrb, hfz, hB⟩ trivial
      · rintro a w1 ⟨⟨y0, y1, y2, y3, y4, y5, y6, y7, y8, y9, y10, y11⟩, hrb, hfz, hB⟩ hx hd K hK
        have t41 : a.tmps[41]?.getD undef = .pointer (some ⟨bp, op + j2.toNat * 3, none⟩) := Reg.slot_val (hd 18 (by kernel_rfl) 41 rfl)
        go_simp
        exact hK _ _ (fun _ => rfl) (fun h => by cases h) ⟨⟨y0, y1, y2, y3, y4, y5, y6, y7, y8, y9, y10, y11⟩, hrb, hfz, hB⟩ trivial
      · rintro a w1 ⟨⟨y0, y1, y2, y3, y4, y5, y6, y7, y8, y9, y10, y11⟩, hrb, hfz, hB⟩ hx hd K hK
        have t6 : a.tmps[6]?.getD undef = .pointer (some ⟨n', 0, none⟩) := Reg.slot_val (hx 6 (by kernel_rfl))
        go_simp
        exact hK _ _ (fun _ => rfl) (fun h => by cases h) ⟨⟨y0, y1, y2, y3, y4, y5, y6, y7, y8, y9, y10, y11⟩, hrb, hfz, hB⟩ trivial
      · rintro a w1 ⟨⟨y0, y1, y2, y3, y4, y5, y6, y7, y8, y9, y10, y11⟩, hrb, hfz, hB⟩ hx hd K hK
        have t42 : a.tmps[42]?.getD undef = vv p2 q2' s2 := Reg.slot_val (hd 19 (by kernel_rfl) 42 rfl)
        have t43 : a.tmps[43]?.getD undef = vv p0 q0 s0 := Reg.slot_val (hd 20 (by kernel_rfl) 43 rfl)
        have hrb' := Lib.hid hrb
        clear hrb
        go_simp
        refine (l01Less _ _ _ _ _ _ _ _ _ _ _ _ _ f20 f21 f22 f00 f01 f02).mono ?_
        rintro en w2 ⟨ra, rb, rc, rfl, ha, hb, hc, hB2⟩
        obtain ⟨u0, u1, u2, x0, x1, x2⟩ := hrb'.out
        have lt := World.block_lt_of_cell? w1 _ x0
        exact hK _ _ (fun _ => ⟨ra, rb, rc, rfl, ha, hb, hc⟩) (fun h => by cases h) ⟨⟨cell_below hB2 y0, cell_below hB2 y1, cell_below hB2 y2, cell_below hB2 y3, cell_below hB2 y4, cell_below hB2 y5, cell_below hB2 y6, cell_below hB2 y7, cell_below hB2 y8, cell_below hB2 y9, cell_below hB2 y10, cell_below hB2 y11⟩, ⟨u0, u1, u2, cell_below hB2 x0, cell_below hB2 x1, cell_below hB2 x2⟩, ⟨frozen_below hB2 lt hfz.1, frozen_below hB2 lt hfz.2.1, frozen_below hB2 lt hfz.2.2⟩, hB.trans (hB2.mono hB.size)⟩ trivial
      · rintro a w1 ⟨⟨y0, y1, y2, y3, y4, y5, y6, y7, y8, y9, y10, y11⟩, hrb, hfz, hB⟩ hx hd K hK
        obtain ⟨r33, p33', q33', gg33, fa33, fb33, fc33⟩ := hd 10 (by kernel_rfl) 33 rfl
        have t33 := Reg.slot_val gg33
        clear gg33
        obtain ⟨r44, p44', q44', gg44, fa44, fb44, fc44⟩ := hd 21 (by kernel_rfl) 44 rfl
        have t44 := Reg.slot_val gg44
        clear gg44
        have hrb' := Lib.hid hrb
        clear hrb
        go_simp
        refine (l01Cross _ _ _ _ _ _ _ _ _ _ _ _ _ fa33 fb33 fc33 fa44 fb44 fc44).mono ?_
        rintro en w2 ⟨ra, rb, rc, rfl, ha, hb, hc, hB2⟩
        obtain ⟨u0, u1, u2, x0, x1, x2⟩ := hrb'.out
        have lt := World.block_lt_of_cell? w1 _ x0
        exact hK _ _ (fun _ => ⟨ra, rb, rc, rfl, ha, hb, hc⟩) (fun h => by cases h) ⟨⟨cell_below hB2 y0, cell_below hB2 y1, cell_below hB2 y2, cell_below hB2 y3, cell_below hB2 y4, cell_below hB2 y5, cell_below hB2 y6, cell_below hB2 y7, cell_below hB2 y8, cell_below hB2 y9, cell_below hB2 y10, cell_below hB2 y11⟩, ⟨u0, u1, u2, cell_below hB2 x0, cell_below hB2 x1, cell_below hB2 x2⟩, ⟨frozen_below hB2 lt hfz.1, frozen_below hB2 lt hfz.2.1, frozen_below hB2 lt hfz.2.2⟩, hB.trans (hB2.mono hB.size)⟩ trivial
      · rintro a w1 ⟨⟨y0, y1, y2, y3, y4, y5, y6, y7, y8, y9, y10, y11⟩, hrb, hfz, hB⟩ hx hd K hK
        have t4 : a.tmps[4]?.getD undef = .pointer (some ⟨w.heap.size, 0, none⟩) := Reg.slot_val (hx 4 (by kernel_rfl))
        obtain ⟨r45, p45', q45', gg45, fa45, fb45, fc45⟩ := hd 22 (by kernel_rfl) 45 rfl
        have t45 := Reg.slot_val gg45
        clear gg45
        obtain ⟨u0, u1, u2, x0, x1, x2⟩ := hrb
        obtain ⟨k0, k1, k2⟩ := hfz
        go_simp
        have s3 := set3 (u := .float .f32 r45) (v := .float .f32 p45') (t := .float .f32 q45') x0 x1 x2
        refine hK undef _ (fun h => absurd rfl h) (fun _ => ⟨r45, p45', q45', s3.1, s3.2.1, s3.2.2, fa45, fb45, fc45⟩) ⟨⟨cell_set (by first | assumption | omega) (cell_set (by first | assumption | omega) (cell_set (by first | assumption | omega) y0)), cell_set (by first | assumption | omega) (cell_set (by first | assumption | omega) (cell_set (by first | assumption | omega) y1)), cell_set (by first | assumption | omega) (cell_set (by first | assumption | omega) (cell_set (by first | assumption | omega) y2)), cell_set (by first | assumption | omega) (cell_set (by first | assumption | omega) (cell_set (by first | assumption | omega) y3)), cell_set (by first | assumption | omega) (cell_set (by first | assumption | omega) (cell_set (by first | assumption | omega) y4)), cell_set (by first | assumption | omega) (cell_set (by first | assumption | omega) (cell_set (by first | assumption | omega) y5)), cell_set (by first | assumption | omega) (cell_set (by first | assumption | omega) (cell_set (by first | assumption | omega) y6)), cell_set (by first | assumption | omega) (cell_set (by first | assumption | omega) (cell_set (by first | assumption | omega) y7)), cell_set (by first | assumption | omega) (cell_set (by first | assumption | omega) (cell_set (by first | assumption | omega) y8)), cell_set (by first | assumption | omega) (cell_set (by first | assumption | omega) (cell_set (by first | assumption | omega) y9)), cell_set (by first | assumption | omega) (cell_set (by first | assumption | omega) (cell_set (by first | assumption | omega) y10)), cell_set (by first | assumption | omega) (cell_set (by first | assumption | omega) (cell_set (by first | assumption | omega) y11))⟩, ⟨_, _, _, s3⟩, ⟨by simp [k0], by simp [k1], by simp [k2]⟩, below_set3 hB (by first | exact Nat.le_refl _ | omega)⟩ trivial
    · rintro f w1 ⟨⟨y0, y1, y2, y3, y4, y5, y6, y7, y8, y9, y10, y11⟩, hrb, hfz, hB⟩ hd hT
      obtain ⟨xa, xb, xc, x0, x1, x2, fa, fb, fc⟩ := hT 23 rfl (by decide)
      simp only [Reg.mixL]
      have HB := Lib.hid hB
      clear hB hd hT hrb hfz
      go_wp2
      refine bodyPost_ret (v := vv xa xb xc) (by simp [results, Try.results161, go_sem, x0, x1, x2]) rfl ⟨_, _, _, rfl, fa, fb, fc, HB.out⟩
end Go.Proofs.Ytmbekamnogbgaaa


/-
Normals of triangles: what the program returns. Conditions: the mesh is valid and has the triangle.
-/
namespace Go.Proofs.Ytmbekamnogbgaaa
open Go Fk Go.RowKit
set_option linter.unusedVariables false
set_option maxRecDepth 8000

set_option maxHeartbeats 4000000 in
theorem mesh_normal (pa ta : Option Addr) (pl pc tl tc : Nat) (cs : List C3) (t : List Int) (w : World) (hp : IsVs w pa pl pc cs) (htri : triB pl t = true) :
    Calls Try.prog 167 #[.agg #[.slice pa pl pc, .slice ta tl tc], .agg #[.int .i64 (t.getD 0 0), .int .i64 (t.getD 1 0), .int .i64 (t.getD 2 0)]] w fun e w' => ∃ x y z, e = .returned (vv x y z) ∧ FV .f32 x (normalC cs t).1 ∧ FV .f32 y (normalC cs t).2.1 ∧ FV .f32 z (normalC cs t).2.2 ∧ Below w.heap.size w w' := by
  have uv := Try.underlying34
  have ui := Try.underlying29
  have uc := Try.underlying131
  obtain ⟨h3, hin⟩ := tri_parts htri
  obtain ⟨bp, op, rfl, hcor⟩ := corner_cell hp htri
  obtain ⟨p0, q0, s0, d00, d01, d02, f00, f01, f02⟩ := hcor 0 (by decide)
  obtain ⟨p1, q1', s1, d10, d11, d12, f10, f11, f12⟩ := hcor 1 (by decide)
  obtain ⟨p2, q2', s2, d20, d21, d22, f20, f21, f22⟩ := hcor 2 (by decide)
  have i0 := hin 0 (by decide)
  have i1 := hin 1 (by decide)
  have i2 := hin 2 (by decide)
  unfold normalC crossC lessC
  generalize cornerC cs t 0 = C0 at *
  generalize cornerC cs t 1 = C1 at *
  generalize cornerC cs t 2 = C2 at *
  generalize t.getD 0 0 = j0 at *
  generalize t.getD 1 0 = j1 at *
  generalize t.getD 2 0 = j2 at *
  obtain ⟨i0, i0'⟩ := i0
  obtain ⟨i1, i1'⟩ := i1
  obtain ⟨i2, i2'⟩ := i2
  have m0 : j0 < (pl : Int) := by omega
  have m1 : j1 < (pl : Int) := by omega
  have m2 : j2 < (pl : Int) := by omega
  have lbp : bp < w.heap.size := World.block_lt_of_cell? w _ d00
  have lbp1 : bp < w.heap.size + 1 := by omega
  have lbp2 : bp < w.heap.size + 1 + 1 := by omega
  have lbp3 : bp < w.heap.size + 1 + 1 + 1 := by omega
  clear hcor hin htri hp h3
  go_enter Try.func167, Try.ntmps167
  go_wp2_with fail
  have hB0 : Below w.heap.size w ((((w.alloc (.cells #[.slice (some ⟨bp, op, none⟩) pl pc, .slice ta tl tc] 29)).alloc (.cells #[.int .i64 j0, .int .i64 j1, .int .i64 j2] 131)).alloc (.cells #[.float .f32 0, .float .f32 0, .float .f32 0] 34)).alloc (.cells #[.float .f32 p0, .float .f32 q0, .float .f32 s0] 34)) := ((((Below.refl _ _).alloc (Nat.le_refl _) _).alloc (by simp) _).alloc (by simp <;> omega) _).alloc (by simp <;> omega) _
  have kk0 : ((((w.alloc (.cells #[.slice (some ⟨bp, op, none⟩) pl pc, .slice ta tl tc] 29)).alloc (.cells #[.int .i64 j0, .int .i64 j1, .int .i64 j2] 131)).alloc (.cells #[.float .f32 0, .float .f32 0, .float .f32 0] 34)).alloc (.cells #[.float .f32 p0, .float .f32 q0, .float .f32 s0] 34)).cell? ⟨w.heap.size, 0, none⟩ = some (.slice (some ⟨bp, op, none⟩) pl pc) := by go_simp
  have kk1 : ((((w.alloc (.cells #[.slice (some ⟨bp, op, none⟩) pl pc, .slice ta tl tc] 29)).alloc (.cells #[.int .i64 j0, .int .i64 j1, .int .i64 j2] 131)).alloc (.cells #[.float .f32 0, .float .f32 0, .float .f32 0] 34)).alloc (.cells #[.float .f32 p0, .float .f32 q0, .float .f32 s0] 34)).cell? ⟨w.heap.size + 1, 1, none⟩ = some (.int .i64 j1) := by go_simp
  have kk2 : ((((w.alloc (.cells #[.slice (some ⟨bp, op, none⟩) pl pc, .slice ta tl tc] 29)).alloc (.cells #[.int .i64 j0, .int .i64 j1, .int .i64 j2] 131)).alloc (.cells #[.float .f32 0, .float .f32 0, .float .f32 0] 34)).alloc (.cells #[.float .f32 p0, .float .f32 q0, .float .f32 s0] 34)).cell? ⟨w.heap.size + 1, 2, none⟩ = some (.int .i64 j2) := by go_simp
  have kv0 : ((((w.alloc (.cells #[.slice (some ⟨bp, op, none⟩) pl pc, .slice ta tl tc] 29)).alloc (.cells #[.int .i64 j0, .int .i64 j1, .int .i64 j2] 131)).alloc (.cells #[.float .f32 0, .float .f32 0, .float .f32 0] 34)).alloc (.cells #[.float .f32 p0, .float .f32 q0, .float .f32 s0] 34)).cell? ⟨w.heap.size + 1 + 1 + 1, 0, none⟩ = some (.float .f32 p0) := by go_simp
  have kv1 : ((((w.alloc (.cells #[.slice (some ⟨bp, op, none⟩) pl pc, .slice ta tl tc] 29)).alloc (.cells #[.int .i64 j0, .int .i64 j1, .int .i64 j2] 131)).alloc (.cells #[.float .f32 0, .float .f32 0, .float .f32 0] 34)).alloc (.cells #[.float .f32 p0, .float .f32 q0, .float .f32 s0] 34)).cell? ⟨w.heap.size + 1 + 1 + 1, 1, none⟩ = some (.float .f32 q0) := by go_simp
  have kv2 : ((((w.alloc (.cells #[.slice (some ⟨bp, op, none⟩) pl pc, .slice ta tl tc] 29)).alloc (.cells #[.int .i64 j0, .int .i64 j1, .int .i64 j2] 131)).alloc (.cells #[.float .f32 0, .float .f32 0, .float .f32 0] 34)).alloc (.cells #[.float .f32 p0, .float .f32 q0, .float .f32 s0] 34)).cell? ⟨w.heap.size + 1 + 1 + 1, 2, none⟩ = some (.float .f32 s0) := by go_simp
  have kr0 : ((((w.alloc (.cells #[.slice (some ⟨bp, op, none⟩) pl pc, .slice ta tl tc] 29)).alloc (.cells #[.int .i64 j0, .int .i64 j1, .int .i64 j2] 131)).alloc (.cells #[.float .f32 0, .float .f32 0, .float .f32 0] 34)).alloc (.cells #[.float .f32 p0, .float .f32 q0, .float .f32 s0] 34)).cell? ⟨w.heap.size + 1 + 1, 0, none⟩ = some (.float .f32 0) := by go_simp
  have kr1 : ((((w.alloc (.cells #[.slice (some ⟨bp, op, none⟩) pl pc, .slice ta tl tc] 29)).alloc (.cells #[.int .i64 j0, .int .i64 j1, .int .i64 j2] 131)).alloc (.cells #[.float .f32 0, .float .f32 0, .float .f32 0] 34)).alloc (.cells #[.float .f32 p0, .float .f32 q0, .float .f32 s0] 34)).cell? ⟨w.heap.size + 1 + 1, 1, none⟩ = some (.float .f32 0) := by go_simp
  have kr2 : ((((w.alloc (.cells #[.slice (some ⟨bp, op, none⟩) pl pc, .slice ta tl tc] 29)).alloc (.cells #[.int .i64 j0, .int .i64 j1, .int .i64 j2] 131)).alloc (.cells #[.float .f32 0, .float .f32 0, .float .f32 0] 34)).alloc (.cells #[.float .f32 p0, .float .f32 q0, .float .f32 s0] 34)).cell? ⟨w.heap.size + 1 + 1, 2, none⟩ = some (.float .f32 0) := by go_simp
  have kf0 : ((((w.alloc (.cells #[.slice (some ⟨bp, op, none⟩) pl pc, .slice ta tl tc] 29)).alloc (.cells #[.int .i64 j0, .int .i64 j1, .int .i64 j2] 131)).alloc (.cells #[.float .f32 0, .float .f32 0, .float .f32 0] 34)).alloc (.cells #[.float .f32 p0, .float .f32 q0, .float .f32 s0] 34)).frozen? ⟨w.heap.size + 1 + 1, 0, none⟩ = false := by go_simp
  have kf1 : ((((w.alloc (.cells #[.slice (some ⟨bp, op, none⟩) pl pc, .slice ta tl tc] 29)).alloc (.cells #[.int .i64 j0, .int .i64 j1, .int .i64 j2] 131)).alloc (.cells #[.float .f32 0, .float .f32 0, .float .f32 0] 34)).alloc (.cells #[.float .f32 p0, .float .f32 q0, .float .f32 s0] 34)).frozen? ⟨w.heap.size + 1 + 1, 1, none⟩ = false := by go_simp
  have kf2 : ((((w.alloc (.cells #[.slice (some ⟨bp, op, none⟩) pl pc, .slice ta tl tc] 29)).alloc (.cells #[.int .i64 j0, .int .i64 j1, .int .i64 j2] 131)).alloc (.cells #[.float .f32 0, .float .f32 0, .float .f32 0] 34)).alloc (.cells #[.float .f32 p0, .float .f32 q0, .float .f32 s0] 34)).frozen? ⟨w.heap.size + 1 + 1, 2, none⟩ = false := by go_simp
  have hd10 := cell_below hB0 d10
  have hd11 := cell_below hB0 d11
  have hd12 := cell_below hB0 d12
  have hd20 := cell_below hB0 d20
  have hd21 := cell_below hB0 d21
  have hd22 := cell_below hB0 d22
  have nA : w.heap.size + 1 + 1 ≠ w.heap.size := by omega
  have nB : w.heap.size + 1 + 1 ≠ w.heap.size + 1 := by omega
  have nC : w.heap.size + 1 + 1 ≠ w.heap.size + 1 + 1 + 1 := by omega
  have nD : w.heap.size + 1 + 1 ≠ bp := by omega
  clear d00 d01 d02 d10 d11 d12 d20 d21 d22
  generalize ((((w.alloc (.cells #[.slice (some ⟨bp, op, none⟩) pl pc, .slice ta tl tc] 29)).alloc (.cells #[.int .i64 j0, .int .i64 j1, .int .i64 j2] 131)).alloc (.cells #[.float .f32 0, .float .f32 0, .float .f32 0] 34)).alloc (.cells #[.float .f32 p0, .float .f32 q0, .float .f32 s0] 34)) = V at *
  refine Reg.wp_region_mix (C := fun w' => (w'.cell? ⟨w.heap.size, 0, none⟩ = some (.slice (some ⟨bp, op, none⟩) pl pc) ∧ w'.cell? ⟨w.heap.size + 1, 1, none⟩ = some (.int .i64 j1) ∧ w'.cell? ⟨w.heap.size + 1, 2, none⟩ = some (.int .i64 j2) ∧ w'.cell? ⟨bp, op + j1.toNat * 3, none⟩ = some (.float .f32 p1) ∧ w'.cell? ⟨bp, op + j1.toNat * 3 + 1, none⟩ = some (.float .f32 q1') ∧ w'.cell? ⟨bp, op + j1.toNat * 3 + 2, none⟩ = some (.float .f32 s1) ∧ w'.cell? ⟨bp, op + j2.toNat * 3, none⟩ = some (.float .f32 p2) ∧ w'.cell? ⟨bp, op + j2.toNat * 3 + 1, none⟩ = some (.float .f32 q2') ∧ w'.cell? ⟨bp, op + j2.toNat * 3 + 2, none⟩ = some (.float .f32 s2) ∧ w'.cell? ⟨w.heap.size + 1 + 1 + 1, 0, none⟩ = some (.float .f32 p0) ∧ w'.cell? ⟨w.heap.size + 1 + 1 + 1, 1, none⟩ = some (.float .f32 q0) ∧ w'.cell? ⟨w.heap.size + 1 + 1 + 1, 2, none⟩ = some (.float .f32 s0)) ∧ (∃ u0 u1 u2, w'.cell? ⟨w.heap.size + 1 + 1, 0, none⟩ = some u0 ∧ w'.cell? ⟨w.heap.size + 1 + 1, 1, none⟩ = some u1 ∧ w'.cell? ⟨w.heap.size + 1 + 1, 2, none⟩ = some u2) ∧ (w'.frozen? ⟨w.heap.size + 1 + 1, 0, none⟩ = false ∧ w'.frozen? ⟨w.heap.size + 1 + 1, 1, none⟩ = false ∧ w'.frozen? ⟨w.heap.size + 1 + 1, 2, none⟩ = false) ∧ Below w.heap.size w w') (G := fun _ _ => True) (R := fun i v _ => match i with | 0 => v = .pointer (some ⟨w.heap.size, 0, none⟩) | 1 => v = .slice (some ⟨bp, op, none⟩) pl pc | 2 => v = .pointer (some ⟨w.heap.size + 1, 1, none⟩) | 3 => v = .int .i64 j1 | 4 => v = .pointer (some ⟨bp, op + j1.toNat * 3, none⟩) | 5 => v = vv p1 q1' s1 | 6 => v = vv p0 q0 s0 | 7 => ∃ a b g, v = vv a b g ∧ FV .f32 a (fop .sub .f32 C1.1 C0.1) ∧ FV .f32 b (fop .sub .f32 C1.2.1 C0.2.1) ∧ FV .f32 g (fop .sub .f32 C1.2.2 C0.2.2) | 8 => v = .pointer (some ⟨w.heap.size, 0, none⟩) | 9 => v = .slice (some ⟨bp, op, none⟩) pl pc | 10 => v = .pointer (some ⟨w.heap.size + 1, 2, none⟩) | 11 => v = .int .i64 j2 | 12 => v = .pointer (some ⟨bp, op + j2.toNat * 3, none⟩) | 13 => v = vv p2 q2' s2 | 14 => v = vv p0 q0 s0 | 15 => ∃ a b g, v = vv a b g ∧ FV .f32 a (fop .sub .f32 C2.1 C0.1) ∧ FV .f32 b (fop .sub .f32 C2.2.1 C0.2.1) ∧ FV .f32 g (fop .sub .f32 C2.2.2 C0.2.2) | 16 => ∃ a b g, v = vv a b g ∧ FV .f32 a (fop .sub .f32 (fop .mul .f32 (fop .sub .f32 C1.2.1 C0.2.1) (fop .sub .f32 C2.2.2 C0.2.2)) (fop .mul .f32 (fop .sub .f32 C1.2.2 C0.2.2) (fop .sub .f32 C2.2.1 C0.2.1))) ∧ FV .f32 b (fop .sub .f32 (fop .mul .f32 (fop .sub .f32 C1.2.2 C0.2.2) (fop .sub .f32 C2.1 C0.1)) (fop .mul .f32 (fop .sub .f32 C1.1 C0.1) (fop .sub .f32 C2.2.2 C0.2.2))) ∧ FV .f32 g (fop .sub .f32 (fop .mul .f32 (fop .sub .f32 C1.1 C0.1) (fop .sub .f32 C2.2.1 C0.2.1)) (fop .mul .f32 (fop .sub .f32 C1.2.1 C0.2.1) (fop .sub .f32 C2.1 C0.1))) | _ => True) (T := fun _ a w' => ∃ a b g, w'.cell? ⟨w.heap.size + 1 + 1, 0, none⟩ = some (.float .f32 a) ∧ w'.cell? ⟨w.heap.size + 1 + 1, 1, none⟩ = some (.float .f32 b) ∧ w'.cell? ⟨w.heap.size + 1 + 1, 2, none⟩ = some (.float .f32 g) ∧ FV .f32 a (fop .sub .f32 (fop .mul .f32 (fop .sub .f32 C1.2.1 C0.2.1) (fop .sub .f32 C2.2.2 C0.2.2)) (fop .mul .f32 (fop .sub .f32 C1.2.2 C0.2.2) (fop .sub .f32 C2.2.1 C0.2.1))) ∧ FV .f32 b (fop .sub .f32 (fop .mul .f32 (fop .sub .f32 C1.2.2 C0.2.2) (fop .sub .f32 C2.1 C0.1)) (fop .mul .f32 (fop .sub .f32 C1.1 C0.1) (fop .sub .f32 C2.2.2 C0.2.2))) ∧ FV .f32 g (fop .sub .f32 (fop .mul .f32 (fop .sub .f32 C1.1 C0.1) (fop .sub .f32 C2.2.1 C0.2.1)) (fop .mul .f32 (fop .sub .f32 C1.2.1 C0.2.1) (fop .sub .f32 C2.1 C0.1)))) [false, false, false, false, false, false, false, false, false, false, false, false, true, true, true, true, true, true, true, true, true, true, true, true, true, true, true, true, true]
    (by kernel_rfl) (by kernel_rfl) (by kernel_rfl) (fun _ _ _ _ _ _ h => h) ⟨⟨kk0, kk1, kk2, hd10, hd11, hd12, hd20, hd21, hd22, kv0, kv1, kv2⟩, ⟨_, _, _, kr0, kr1, kr2⟩, ⟨kf0, kf1, kf2⟩, below_drewN hB0 1⟩ ?_ ?_
  · refine ⟨Reg.Obl.mk ?_, Reg.Obl.mk ?_, Reg.Obl.mk ?_, Reg.Obl.mk ?_, Reg.Obl.mk ?_, Reg.Obl.mk ?_, Reg.Obl.mk ?_, Reg.Obl.mk ?_, Reg.Obl.mk ?_, Reg.Obl.mk ?_, Reg.Obl.mk ?_, Reg.Obl.mk ?_, Reg.Obl.mk ?_, Reg.Obl.mk ?_, Reg.Obl.mk ?_, Reg.Obl.mk ?_, Reg.Obl.mk ?_, Reg.Obl.mk ?_, trivial⟩
    · rintro a w1 ⟨⟨y0, y1, y2, y3, y4, y5, y6, y7, y8, y9, y10, y11⟩, hrb, hfz, hB⟩ hx hd K hK
      have t2 : a.tmps[2]?.getD undef = .pointer (some ⟨w.heap.size, 0, none⟩) := Reg.slot_val (hx 2 (by kernel_rfl))
      go_simp
      exact hK _ _ (fun _ => rfl) (fun h => by cases h) ⟨⟨y0, y1, y2, y3, y4, y5, y6, y7, y8, y9, y10, y11⟩, hrb, hfz, hB⟩ trivial
    · rintro a w1 ⟨⟨y0, y1, y2, y3, y4, y5, y6, y7, y8, y9, y10, y11⟩, hrb, hfz, hB⟩ hx hd K hK
      have t12 : a.tmps[12]?.getD undef = .pointer (some ⟨w.heap.size, 0, none⟩) := Reg.slot_val (hd 0 (by kernel_rfl) 12 rfl)
      go_simp
      exact hK _ _ (fun _ => rfl) (fun h => by cases h) ⟨⟨y0, y1, y2, y3, y4, y5, y6, y7, y8, y9, y10, y11⟩, hrb, hfz, hB⟩ trivial
    · rintro a w1 ⟨⟨y0, y1, y2, y3, y4, y5, y6, y7, y8, y9, y10, y11⟩, hrb, hfz, hB⟩ hx hd K hK
      have t3 : a.tmps[3]?.getD undef = .pointer (some ⟨w.heap.size + 1, 0, none⟩) := Reg.slot_val (hx 3 (by kernel_rfl))
      go_simp
      exact hK _ _ (fun _ => rfl) (fun h => by cases h) ⟨⟨y0, y1, y2, y3, y4, y5, y6, y7, y8, y9, y10, y11⟩, hrb, hfz, hB⟩ trivial
    · rintro a w1 ⟨⟨y0, y1, y2, y3, y4, y5, y6, y7, y8, y9, y10, y11⟩, hrb, hfz, hB⟩ hx hd K hK
      have t14 : a.tmps[14]?.getD undef = .pointer (some ⟨w.heap.size + 1, 1, none⟩) := Reg.slot_val (hd 2 (by kernel_rfl) 14 rfl)
      go_simp
      exact hK _ _ (fun _ => rfl) (fun h => by cases h) ⟨⟨y0, y1, y2, y3, y4, y5, y6, y7, y8, y9, y10, y11⟩, hrb, hfz, hB⟩ trivial
    · rintro a w1 ⟨⟨y0, y1, y2, y3, y4, y5, y6, y7, y8, y9, y10, y11⟩, hrb, hfz, hB⟩ hx hd K hK
      have t13 : a.tmps[13]?.getD undef = .slice (some ⟨bp, op, none⟩) pl pc := Reg.slot_val (hd 1 (by kernel_rfl) 13 rfl)
      have t15 : a.tmps[15]?.getD undef = .int .i64 j1 := Reg.slot_val (hd 3 (by kernel_rfl) 15 rfl)
      go_simp
      exact hK _ _ (fun _ => rfl) (fun h => by cases h) ⟨⟨y0, y1, y2, y3, y4, y5, y6, y7, y8, y9, y10, y11⟩, hrb, hfz, hB⟩ trivial
    · rintro a w1 ⟨⟨y0, y1, y2, y3, y4, y5, y6, y7, y8, y9, y10, y11⟩, hrb, hfz, hB⟩ hx hd K hK
      have t16 : a.tmps[16]?.getD undef = .pointer (some ⟨bp, op + j1.toNat * 3, none⟩) := Reg.slot_val (hd 4 (by kernel_rfl) 16 rfl)
      go_simp
      exact hK _ _ (fun _ => rfl) (fun h => by cases h) ⟨⟨y0, y1, y2, y3, y4, y5, y6, y7, y8, y9, y10, y11⟩, hrb, hfz, hB⟩ trivial
    · rintro a w1 ⟨⟨y0, y1, y2, y3, y4, y5, y6, y7, y8, y9, y10, y11⟩, hrb, hfz, hB⟩ hx hd K hK
      have t5 : a.tmps[5]?.getD undef = .pointer (some ⟨w.heap.size + 1 + 1 + 1, 0, none⟩) := Reg.slot_val (hx 5 (by kernel_rfl))
      go_simp
      exact hK _ _ (fun _ => rfl) (fun h => by cases h) ⟨⟨y0, y1, y2, y3, y4, y5, y6, y7, y8, y9, y10, y11⟩, hrb, hfz, hB⟩ trivial
    · rintro a w1 ⟨⟨y0, y1, y2, y3, y4, y5, y6, y7, y8, y9, y10, y11⟩, hrb, hfz, hB⟩ hx hd K hK
      have t17 : a.tmps[17]?.getD undef = vv p1 q1' s1 := Reg.slot_val (hd 5 (by kernel_rfl) 17 rfl)
      have t18 : a.tmps[18]?.getD undef = vv p0 q0 s0 := Reg.slot_val (hd 6 (by kernel_rfl) 18 rfl)
      have hrb' := Lib.hid hrb
      clear hrb
      go_simp
      refine (impl_LessVectors _ _ _ _ _ _ _ _ _ _ _ _ _ f10 f11 f12 f00 f01 f02).mono ?_
      rintro en w2 ⟨ra, rb, rc, rfl, ha, hb, hc, hB2⟩
      obtain ⟨u0, u1, u2, x0, x1, x2⟩ := hrb'.out
      have lt := World.block_lt_of_cell? w1 _ x0
      exact hK _ _ (fun _ => ⟨ra, rb, rc, rfl, ha, hb, hc⟩) (fun h => by cases h) ⟨⟨cell_below hB2 y0, cell_below hB2 y1, cell_below hB2 y2, cell_below hB2 y3, cell_below hB2 y4, cell_below hB2 y5, cell_below hB2 y6, cell_below hB2 y7, cell_below hB2 y8, cell_below hB2 y9, cell_below hB2 y10, cell_below hB2 y11⟩, ⟨u0, u1, u2, cell_below hB2 x0, cell_below hB2 x1, cell_below hB2 x2⟩, ⟨frozen_below hB2 lt hfz.1, frozen_below hB2 lt hfz.2.1, frozen_below hB2 lt hfz.2.2⟩, hB.trans (hB2.mono hB.size)⟩ trivial
    · rintro a w1 ⟨⟨y0, y1, y2, y3, y4, y5, y6, y7, y8, y9, y10, y11⟩, hrb, hfz, hB⟩ hx hd K hK
      have t2 : a.tmps[2]?.getD undef = .pointer (some ⟨w.heap.size, 0, none⟩) := Reg.slot_val (hx 2 (by kernel_rfl))
      go_simp
      exact hK _ _ (fun _ => rfl) (fun h => by cases h) ⟨⟨y0, y1, y2, y3, y4, y5, y6, y7, y8, y9, y10, y11⟩, hrb, hfz, hB⟩ trivial
    · rintro a w1 ⟨⟨y0, y1, y2, y3, y4, y5, y6, y7, y8, y9, y10, y11⟩, hrb, hfz, hB⟩ hx hd K hK
      have t20 : a.tmps[20]?.getD undef = .pointer (some ⟨w.heap.size, 0, none⟩) := Reg.slot_val (hd 8 (by kernel_rfl) 20 rfl)
      go_simp
      exact hK _ _ (fun _ => rfl) (fun h => by cases h) ⟨⟨y0, y1, y2, y3, y4, y5, y6, y7, y8, y9, y10, y11⟩, hrb, hfz, hB⟩ trivial
    · rintro a w1 ⟨⟨y0, y1, y2, y3, y4, y5, y6, y7, y8, y9, y10, y11⟩, hrb, hfz, hB⟩ hx hd K hK
      have t3 : a.tmps[3]?.getD undef = .pointer (some ⟨w.heap.size + 1, 0, none⟩) := Reg.slot_val (hx 3 (by kernel_rfl))
      go_simp
      exact hK _ _ (fun _ => rfl) (fun h => by cases h) ⟨⟨y0, y1, y2, y3, y4, y5, y6, y7, y8, y9, y10, y11⟩, hrb, hfz, hB⟩ trivial
    · rintro a w1 ⟨⟨y0, y1, y2, y3, y4, y5, y6, y7, y8, y9, y10, y11⟩, hrb, hfz, hB⟩ hx hd K hK
      have t22 : a.tmps[22]?.getD undef = .pointer (some ⟨w.heap.size + 1, 2, none⟩) := Reg.slot_val (hd 10 (by kernel_rfl) 22 rfl)
      go_simp
      exact hK _ _ (fun _ => rfl) (fun h => by cases h) ⟨⟨y0, y1, y2, y3, y4, y5, y6, y7, y8, y9, y10, y11⟩, hrb, hfz, hB⟩ trivial
    · rintro a w1 ⟨⟨y0, y1, y2, y3, y4, y5, y6, y7, y8, y9, y10, y11⟩, hrb, hfz, hB⟩ hx hd K hK
      have t21 : a.tmps[21]?.getD undef = .slice (some ⟨bp, op, none⟩) pl pc := Reg.slot_val (hd 9 (by kernel_rfl) 21 rfl)
      have t23 : a.tmps[23]?.getD undef = .int .i64 j2 := Reg.slot_val (hd 11 (by kernel_rfl) 23 rfl)
      go_simp
      exact hK _ _ (fun _ => rfl) (fun h => by cases h) ⟨⟨y0, y1, y2, y3, y4, y5, y6, y7, y8, y9, y10, y11⟩, hrb, hfz, hB⟩ trivial
    · rintro a w1 ⟨⟨y0, y1, y2, y3, y4, y5, y6, y7, y8, y9, y10, y11⟩, hrb, hfz, hB⟩ hx hd K hK
      have t24 : a.tmps[24]?.getD undef = .pointer (some ⟨bp, op + j2.toNat * 3, none⟩) := Reg.slot_val (hd 12 (by kernel_rfl) 24 rfl)
      go_simp
      exact hK _ _ (fun _ => rfl) (fun h => by cases h) ⟨⟨y0, y1, y2, y3, y4, y5, y6, y7, y8, y9, y10, y11⟩, hrb, hfz, hB⟩ trivial
    · rintro a w1 ⟨⟨y0, y1, y2, y3, y4, y5, y6, y7, y8, y9, y10, y11⟩, hrb, hfz, hB⟩ hx hd K hK
      have t5 : a.tmps[5]?.getD undef = .pointer (some ⟨w.heap.size + 1 + 1 + 1, 0, none⟩) := Reg.slot_val (hx 5 (by kernel_rfl))
      go_simp
      exact hK _ _ (fun _ => rfl) (fun h => by cases h) ⟨⟨y0, y1, y2, y3, y4, y5, y6, y7, y8, y9, y10, y11⟩, hrb, hfz, hB⟩ trivial
    · rintro a w1 ⟨⟨y0, y1, y2, y3, y4, y5, y6, y7, y8, y9, y10, y11⟩, hrb, hfz, hB⟩ hx hd K hK
      have t25 : a.tmps[25]?.getD undef = vv p2 q2' s2 := Reg.slot_val (hd 13 (by kernel_rfl) 25 rfl)
      have t26 : a.tmps[26]?.getD undef = vv p0 q0 s0 := Reg.slot_val (hd 14 (by kernel_rfl) 26 rfl)
      have hrb' := Lib.hid hrb
      clear hrb
      go_simp
      refine (impl_LessVectors _ _ _ _ _ _ _ _ _ _ _ _ _ f20 f21 f22 f00 f01 f02).mono ?_
      rintro en w2 ⟨ra, rb, rc, rfl, ha, hb, hc, hB2⟩
      obtain ⟨u0, u1, u2, x0, x1, x2⟩ := hrb'.out
      have lt := World.block_lt_of_cell? w1 _ x0
      exact hK _ _ (fun _ => ⟨ra, rb, rc, rfl, ha, hb, hc⟩) (fun h => by cases h) ⟨⟨cell_below hB2 y0, cell_below hB2 y1, cell_below hB2 y2, cell_below hB2 y3, cell_below hB2 y4, cell_below hB2 y5, cell_below hB2 y6, cell_below hB2 y7, cell_below hB2 y8, cell_below hB2 y9, cell_below hB2 y10, cell_below hB2 y11⟩, ⟨u0, u1, u2, cell_below hB2 x0, cell_below hB2 x1, cell_below hB2 x2⟩, ⟨frozen_below hB2 lt hfz.1, frozen_below hB2 lt hfz.2.1, frozen_below hB2 lt hfz.2.2⟩, hB.trans (hB2.mono hB.size)⟩ trivial
    · rintro a w1 ⟨⟨y0, y1, y2, y3, y4, y5, y6, y7, y8, y9, y10, y11⟩, hrb, hfz, hB⟩ hx hd K hK
      obtain ⟨r19, p19', q19', gg19, fa19, fb19, fc19⟩ := hd 7 (by kernel_rfl) 19 rfl
      have t19 := Reg.slot_val gg19
      clear gg19
      obtain ⟨r27, p27', q27', gg27, fa27, fb27, fc27⟩ := hd 15 (by kernel_rfl) 27 rfl
      have t27 := Reg.slot_val gg27
      clear gg27
      have hrb' := Lib.hid hrb
      clear hrb
      go_simp
      refine (impl_CrossOf _ _ _ _ _ _ _ _ _ _ _ _ _ fa19 fb19 fc19 fa27 fb27 fc27).mono ?_
      rintro en w2 ⟨ra, rb, rc, rfl, ha, hb, hc, hB2⟩
      obtain ⟨u0, u1, u2, x0, x1, x2⟩ := hrb'.out
      have lt := World.block_lt_of_cell? w1 _ x0
      exact hK _ _ (fun _ => ⟨ra, rb, rc, rfl, ha, hb, hc⟩) (fun h => by cases h) ⟨⟨cell_below hB2 y0, cell_below hB2 y1, cell_below hB2 y2, cell_below hB2 y3, cell_below hB2 y4, cell_below hB2 y5, cell_below hB2 y6, cell_below hB2 y7, cell_below hB2 y8, cell_below hB2 y9, cell_below hB2 y10, cell_below hB2 y11⟩, ⟨u0, u1, u2, cell_below hB2 x0, cell_below hB2 x1, cell_below hB2 x2⟩, ⟨frozen_below hB2 lt hfz.1, frozen_below hB2 lt hfz.2.1, frozen_below hB2 lt hfz.2.2⟩, hB.trans (hB2.mono hB.size)⟩ trivial
    · rintro a w1 ⟨⟨y0, y1, y2, y3, y4, y5, y6, y7, y8, y9, y10, y11⟩, hrb, hfz, hB⟩ hx hd K hK
      have t4 : a.tmps[4]?.getD undef = .pointer (some ⟨w.heap.size + 1 + 1, 0, none⟩) := Reg.slot_val (hx 4 (by kernel_rfl))
      obtain ⟨r28, p28', q28', gg28, fa28, fb28, fc28⟩ := hd 16 (by kernel_rfl) 28 rfl
      have t28 := Reg.slot_val gg28
      clear gg28
      obtain ⟨u0, u1, u2, x0, x1, x2⟩ := hrb
      obtain ⟨k0, k1, k2⟩ := hfz
      go_simp
      have s3 := set3 (u := .float .f32 r28) (v := .float .f32 p28') (t := .float .f32 q28') x0 x1 x2
      refine hK undef _ (fun h => absurd rfl h) (fun _ => ⟨r28, p28', q28', s3.1, s3.2.1, s3.2.2, fa28, fb28, fc28⟩) ⟨⟨cell_set (by first | assumption | omega) (cell_set (by first | assumption | omega) (cell_set (by first | assumption | omega) y0)), cell_set (by first | assumption | omega) (cell_set (by first | assumption | omega) (cell_set (by first | assumption | omega) y1)), cell_set (by first | assumption | omega) (cell_set (by first | assumption | omega) (cell_set (by first | assumption | omega) y2)), cell_set (by first | assumption | omega) (cell_set (by first | assumption | omega) (cell_set (by first | assumption | omega) y3)), cell_set (by first | assumption | omega) (cell_set (by first | assumption | omega) (cell_set (by first | assumption | omega) y4)), cell_set (by first | assumption | omega) (cell_set (by first | assumption | omega) (cell_set (by first | assumption | omega) y5)), cell_set (by first | assumption | omega) (cell_set (by first | assumption | omega) (cell_set (by first | assumption | omega) y6)), cell_set (by first | assumption | omega) (cell_set (by first | assumption | omega) (cell_set (by first | assumption | omega) y7)), cell_set (by first | assumption | omega) (cell_set (by first | assumption | omega) (cell_set (by first | assumption | omega) y8)), cell_set (by first | assumption | omega) (cell_set (by first | assumption | omega) (cell_set (by first | assumption | omega) y9)), cell_set (by first | assumption | omega) (cell_set (by first | assumption | omega) (cell_set (by first | assumption | omega) y10)), cell_set (by first | assumption | omega) (cell_set (by first | assumption | omega) (cell_set (by first | assumption | omega) y11))⟩, ⟨_, _, _, s3⟩, ⟨by simp [k0], by simp [k1], by simp [k2]⟩, below_set3 hB (by first | exact Nat.le_refl _ | omega)⟩ trivial
  · rintro f w1 ⟨⟨y0, y1, y2, y3, y4, y5, y6, y7, y8, y9, y10, y11⟩, hrb, hfz, hB⟩ hd hT
    obtain ⟨xa, xb, xc, x0, x1, x2, fa, fb, fc⟩ := hT 17 rfl (by decide)
    simp only [Reg.mixL]
    have HB := Lib.hid hB
    clear hB hd hT hrb hfz
    go_wp2
    refine bodyPost_ret (v := vv xa xb xc) (by simp [results, Try.results167, go_sem, x0, x1, x2]) rfl ⟨_, _, _, rfl, fa, fb, fc, HB.out⟩
end Go.Proofs.Ytmbekamnogbgaaa

/-
Texts in one: what HoldForces stands on, part 16. Conditions: those of each.
-/
import Derived.Test.YtajglpkeojaelaaKHoldForces15

/-
Which lists are holds of a mesh: the program. Conditions: none beyond that both lie in memory.
-/
namespace Go.Proofs.Ytajglpkeojaelaa
open Go Fk Go.RowKit
set_option linter.unusedVariables false
set_option maxRecDepth 8000

/-- A hold of a list is in its place. -/
def stepB (n : Nat) (hs : List HC) (k : Nat) : Bool := holdB (hs.getD k hd0) && (inB n (hs.getD k hd0).1 && (decide (k = 0) || decide ((hs.getD (k - 1) hd0).1 < (hs.getD k hd0).1)))
def goodB (n : Nat) (hs : List HC) : Bool := (List.range hs.length).all (stepB n hs)
def areB (cs : List C3) (ts : List (List Int)) (hs : List HC) : Bool := validB cs ts && goodB cs.length hs
theorem good_not {n : Nat} {hs : List HC} {k : Nat} (hk : k < hs.length) (h : stepB n hs k = false) : goodB n hs = false := by
  rw [Bool.eq_false_iff]
  intro hh
  have := List.all_eq_true.1 hh k (List.mem_range.2 hk)
  rw [this] at h; cases h
theorem good_all {n : Nat} {hs : List HC} (h : ∀ j, j < hs.length → stepB n hs j = true) : goodB n hs = true := by
  unfold goodB
  rw [List.all_eq_true]
  intro j hj
  exact h j (List.mem_range.1 hj)
theorem good_at {n : Nat} {hs : List HC} (h : goodB n hs = true) {k : Nat} (hk : k < hs.length) : stepB n hs k = true := List.all_eq_true.1 h k (List.mem_range.2 hk)
theorem good_rise {n : Nat} {hs : List HC} (h : ∀ j, j < hs.length → holdB (hs.getD j hd0) = true) : riseB n (hs.map (·.1)) = goodB n hs := by
  have hg : ∀ j, j < hs.length → (hs.map (·.1)).getD j 0 = (hs.getD j hd0).1 := by intro j hj; simp [List.getD, hj]
  unfold riseB goodB
  rw [List.length_map, Bool.eq_iff_iff, List.all_eq_true, List.all_eq_true]
  have he : ∀ j, j ∈ List.range hs.length → stepI n (hs.map (·.1)) j = stepB n hs j := by
    intro j hj
    have hj' := List.mem_range.1 hj
    unfold stepI stepB
    rw [hg j hj', h j hj', Bool.true_and]
    by_cases h0 : j = 0
    · rw [decide_eq_true h0]; simp
    · rw [hg (j - 1) (by omega)]
  constructor
  · intro hh j hj; rw [← he j hj]; exact hh j hj
  · intro hh j hj; rw [he j hj]; exact hh j hj
/-- The places of the first holds, in a list of one's own. -/
def Pl (hs : List HC) (n k : Nat) (w : World) (g : Nat) : Prop := (g < w.heap.size ∧ ∀ j, w.frozen? ⟨g, j, none⟩ = false) ∧ (∀ j, j < k → w.cell? ⟨g, j, none⟩ = some (.int .i64 (hs.getD j hd0).1)) ∧ ∀ j, k ≤ j → j < n → w.cell? ⟨g, j, none⟩ = some (.int .i64 0)
theorem Pl.below {hs : List HC} {n k g : Nat} {W w : World} (hb : Below W.heap.size W w) (h : Pl hs n k W g) : Pl hs n k w g :=
  ⟨⟨Nat.lt_of_lt_of_le h.1.1 hb.size, fun j => by rw [hb.frozen (p := ⟨g, j, none⟩) h.1.1]; exact h.1.2 j⟩, fun j hj => cell_below hb (h.2.1 j hj), fun j h1 h2 => cell_below hb (h.2.2 j h1 h2)⟩
theorem Pl.put {hs : List HC} {n k g : Nat} {w : World} (h : Pl hs n k w g) (hk : k < n) : Pl hs n (k + 1) (w.setCell ⟨g, k, none⟩ (.int .i64 (hs.getD k hd0).1)) g := by
  refine ⟨⟨by simpa using h.1.1, fun j => by simpa using h.1.2 j⟩, fun j hj => ?_, fun j h1 h2 => ?_⟩
  · by_cases hjk : j = k
    · subst hjk
      rw [World.cell?_setCell_same _ _ _ (h.2.2 j (Nat.le_refl _) hk)]
    · rw [World.cell?_setCell_other _ _ _ _ (by simp <;> omega), h.2.1 j (by omega)]
  · rw [World.cell?_setCell_other _ _ _ _ (by simp <;> omega), h.2.2 j (by omega) h2]
theorem Pl.is {hs : List HC} {n g : Nat} {w : World} (h : Pl hs n n w g) (hn : hs.length = n) (hm : n ≤ maxLen) (hwf : ∀ s ∈ hs, (Lit.int .i64 s.1).wf = true) : IsIs w (some ⟨g, 0, none⟩) n n (hs.map (·.1)) := by
  refine ⟨by rw [List.length_map, hn], Nat.le_refl _, hm, fun z hz => ?_, (fun e => by cases e), fun x hx i hi => ?_⟩
  · obtain ⟨s, hs1, rfl⟩ := List.mem_map.1 hz
    exact hwf s hs1
  · cases hx
    have : (hs.map (·.1)).getD i 0 = (hs.getD i hd0).1 := by simp [List.getD, show i < hs.length by omega]
    rw [this, addr_add', Nat.zero_add]
    exact h.2.1 i hi
theorem infoZ : (Try.prog.info? 2).map (fun i => (i.zero, i.size, i.bytes)) = some (some (.int .i64 0), 1, 8) := by kernel_rfl
set_option maxHeartbeats 2000000 in
theorem impl_AreHolds (pa ta ha : Option Addr) (pl pc tl tc hl hc : Nat) (cs : List C3) (ts : List (List Int)) (hs : List HC) (w : World) (hp : IsVs w pa pl pc cs) (ht : IsTs w ta tl tc ts) (hh : IsHs w ha hl hc hs) (hsm : hl ≤ 1048576) :
    Calls Try.prog 40 #[.agg #[.slice pa pl pc, .slice ta tl tc], .slice ha hl hc] w fun e w' => e = .returned (.bool (areB cs ts hs)) ∧ Below w.heap.size w w' := by
  have ui := Try.underlying38
  have uh := Try.underlying119
  have u := Try.underlying2
  obtain ⟨j0, hj, hy0, hy1, hy2⟩ := info_parts infoZ
  have BX : Hid (Bx w [(w.heap.size, [.slice pa pl pc, .slice ta tl tc])] (w.alloc (.cells #[.slice pa pl pc, .slice ta tl tc] 38))) := Lib.hid ((Bx.nil w).box (vs := [.slice pa pl pc, .slice ta tl tc]) (t := 38))
  have hpl := hp.1
  have hll := hh.1
  have hwf := hh.2.2.2.1
  have hm : hl ≤ 9223372036854775807 := by have h1 := hh.2.1; have h2 := hh.2.2.1; unfold maxLen at h2; omega
  have JV := impl_ValidMesh _ _ _ _ _ _ cs ts (w.alloc (.cells #[.slice pa pl pc, .slice ta tl tc] 38)) (hp.below BX.out.bel) (ht.below BX.out.bel)
  have HH := Lib.hid hh
  have HWF := Lib.hid (fun s hs => (hwf s hs).1)
  unfold areB
  rw [hpl]
  clear hp ht hh hwf
  cases hv : validB cs ts
  · rw [hv] at JV
    have JV := Lib.hid JV
    clear hv hpl
    go_enter Try.func40, Try.ntmps40
    go_wp2_with fail
    generalize (w.alloc (.cells #[.slice pa pl pc, .slice ta tl tc] 38)) = W at *
    refine JV.out.mono ?_
    rintro e w1 ⟨rfl, hB1⟩
    have BX1 := Lib.hid (BX.out.call hB1)
    clear hB1
    go_wp2
    go_ret
    exact ⟨rfl, BX1.out.bel⟩
  · rw [hv] at JV
    have JV := Lib.hid JV
    have h64 : pl ≤ 64 := by have : cs.length ≤ 64 := by { unfold validB at hv; simp at hv; exact hv.1.1 }; omega
    clear hv
    go_enter Try.func40, Try.ntmps40
    go_wp2_with fail
    generalize (w.alloc (.cells #[.slice pa pl pc, .slice ta tl tc] 38)) = W at *
    refine JV.out.mono ?_
    rintro e w1 ⟨rfl, hB1⟩
    have BX1 := Lib.hid (BX.out.call hB1)
    clear hB1
    have hmk : (Instr.makeSlice 33 (.int .i64 hl) (.int .i64 hl)).run Try.prog w1 = .ok (.slice (some ⟨w1.heap.size, 0, none⟩) hl hl) (w1.alloc (.cells (madeCells #[.int .i64 0] hl) 2)) := by
      have := run_make (P := Try.prog) w1 33 2 j0 (.int .i64 0) Try.underlying33 hj hy0 .i64 .i64 hl hl (by omega) (Int.le_refl _) (by rw [hy2]; omega) (by omega)
      rw [this, hy1]; simp; rfl
    have hST : Pl hs hl 0 (w1.alloc (.cells (madeCells #[.int .i64 0] hl) 2)) w1.heap.size := by
      refine ⟨⟨by simp, fun j => by simp⟩, fun j hj => absurd hj (by omega), fun j _ hj => ?_⟩
      have hmc : (madeCells #[.int .i64 0] hl : Array Value)[j]? = some (.int .i64 0) := by
        unfold madeCells
        simp [hj, Nat.mod_one]
      simp [hmc]
    have BS := Lib.hid hST
    have HA : Hid (Below w1.heap.size w1 (w1.alloc (.cells (madeCells #[.int .i64 0] hl) 2))) := Lib.hid ((Below.refl _ _).alloc (Nat.le_refl _) _)
    clear hST
    go_wp2
    generalize (w1.alloc (.cells (madeCells #[.int .i64 0] hl) 2)) = W2 at *
    obtain ⟨g, hg⟩ : ∃ g, g = w1.heap.size := ⟨_, rfl⟩
    rw [← hg] at BS ⊢
    have HGS := Lib.hid hg
    clear hg hmk
    go_loopw [16] (fun i w' => ∃ k : Nat, k ≤ hl ∧ i = .int .i64 k ∧ Aside (Pl hs hl k w' g ∧ Below w1.heap.size w1 w' ∧ ∀ j, j < k → holdB (hs.getD j hd0) = true)) (fun i _ => hl - (intOf i).toNat)
    case atStart => exact ⟨0, Nat.zero_le _, rfl, BS.out, HA.out, fun j hj => absurd hj (by omega)⟩
    case round =>
      obtain ⟨k, hk, rfl, hA⟩ := hrel
      obtain ⟨hbs, hB, hok⟩ := hA.out
      have HB := Lib.hid hB
      have BK := Lib.hid hbs
      have OK := Lib.hid hok
      have BXK := Lib.hid (BX1.out.call hB)
      clear hA hB hbs hok
      by_cases hlt : k < hl
      · obtain ⟨b, o, hha, hcell⟩ := (HH.out.below BXK.out.bel).some (by omega)
        obtain ⟨h, hq, hi⟩ := hcell k hlt
        have hk0 : (0 : Int) ≤ (k : Int) := by omega
        have hk1 : (k : Int) < (hl : Int) := by omega
        have hstep : stepB pl hs k = (holdB (hs.getD k hd0) && (inB pl (hs.getD k hd0).1 && (decide (k = 0) || decide ((hs.getD (k - 1) hd0).1 < (hs.getD k hd0).1)))) := rfl
        have JI := Lib.hid (fun w => impl_IsHold h (hs.getD k hd0) w hi)
        have hpz := Lib.hid hi.1
        have hlk : k < hs.length := by omega
        have c0 := hq 0 (by omega)
        have c1 := hq 1 (by omega)
        have c2 := hq 2 (by omega)
        have c3 := hq 3 (by omega)
        have c4 := hq 4 (by omega)
        have c5 := hq 5 (by omega)
        have c6 := hq 6 (by omega)
        have c7 := hq 7 (by omega)
        simp only [HW.l, List.getElem?_cons_zero, List.getElem?_cons_succ, Nat.add_zero] at c0 c1 c2 c3 c4 c5 c6 c7
        rw [hha]
        have HHA := Lib.hid hha
        have BB0 := Lib.hid ((Bx.nil wr).box (vs := h.l) (t := 119))
        clear hcell hq hi hha
        have BB := BB0
        change Hid (Bx wr _ (wr.alloc (HBox h 119))) at BB
        cases hb : holdB (hs.getD k hd0)
        · rw [hb] at JI hstep
          have HR := Lib.hid (good_not (n := pl) hlk (by rw [hstep]; rfl))
          clear hb hstep
          go_wp2_with fail
          change Calls _ _ _ (wr.alloc (HBox h 119)) _
          clear c0 c1 c2 c3 c4 c5 c6 c7
          generalize (wr.alloc (HBox h 119)) = W3 at *
          refine (JI.out _).mono ?_
          rintro e w2 ⟨rfl, hB2⟩
          have BX2 := Lib.hid (BXK.out.call (BB.out.call hB2).bel)
          clear hB2
          go_wp2
          go_ret
          exact ⟨ret_bool (by rw [HR.out]; rfl), BX2.out.bel⟩
        · rw [hb] at JI
          have HOK : Hid (∀ j, j < k + 1 → holdB (hs.getD j hd0) = true) := Lib.hid (fun j hj => by
            by_cases hjk : j = k
            · subst hjk; exact hb
            · exact OK.out j (by omega))
          clear hb hstep
          go_wp2_with fail
          change Calls _ _ _ (wr.alloc (HBox h 119)) _
          clear c0 c1 c2 c3 c4 c5 c6 c7
          generalize (wr.alloc (HBox h 119)) = W3 at *
          generalize wr.heap.size = PB at *
          refine (JI.out _).mono ?_
          rintro e w2 ⟨rfl, hB2⟩
          have BX2 := Lib.hid (BB.out.call hB2)
          have BK2 := Lib.hid (BK.out.below BX2.out.bel)
          have HB2 := Lib.hid (HB.out.trans (BX2.out.bel.mono HB.out.size))
          have m0 := (BX2.out.mem (.head _)) 0 _ rfl
          have hgc := BK2.out.2.2 k (Nat.le_refl _) hlt
          have hgf := BK2.out.1.2 k
          have hgs := BK2.out.1.1
          clear hB2
          go_wp2
          go_roundw
          case rel => exact ⟨k + 1, by omega, by go_num, by rw [hpz.out]; exact BK2.out.put hlt, HB2.out.setCell (p := ⟨g, k, none⟩) (by rw [HGS.out]; exact Nat.le_refl _) _, HOK.out⟩
          case measure => simp [intOf]; omega
      · obtain rfl : k = hl := by omega
        have JX := Lib.hid (impl_isIndexSet (some ⟨g, 0, none⟩) k k pl (hs.map (·.1)) wr (BK.out.is hll (by unfold maxLen; omega) HWF.out) (by omega))
        have HR := Lib.hid (good_rise (n := pl) (hs := hs) (fun j hj => OK.out j (by omega)))
        have m0 := (BXK.out.mem (.head _)) 0 _ rfl
        go_wp2_with fail
        refine JX.out.mono ?_
        rintro e w3 ⟨rfl, hw3⟩
        rw [hw3]; clear hw3 w3
        go_wp2
        go_ret
        exact ⟨ret_bool (by rw [HR.out]; rfl), BXK.out.bel⟩
end Go.Proofs.Ytajglpkeojaelaa


/-
Normals of triangles: what the program and its model return. Conditions: the mesh is valid and has the triangle.
-/
namespace Go.Proofs.Ytajglpkeojaelaa
open Go Fk Go.RowKit
set_option linter.unusedVariables false
set_option maxRecDepth 8000

def lessC (a b : C3) : C3 := (fop .sub .f32 a.1 b.1, fop .sub .f32 a.2.1 b.2.1, fop .sub .f32 a.2.2 b.2.2)
def crossC (a b : C3) : C3 := (fop .sub .f32 (fop .mul .f32 a.2.1 b.2.2) (fop .mul .f32 a.2.2 b.2.1), fop .sub .f32 (fop .mul .f32 a.2.2 b.1) (fop .mul .f32 a.1 b.2.2), fop .sub .f32 (fop .mul .f32 a.1 b.2.1) (fop .mul .f32 a.2.1 b.1))
def cornerC (cs : List C3) (t : List Int) (i : Nat) : C3 := cs.getD (t.getD i 0).toNat c0
def normalC (cs : List C3) (t : List Int) : C3 := crossC (lessC (cornerC cs t 1) (cornerC cs t 0)) (lessC (cornerC cs t 2) (cornerC cs t 0))
theorem tri_parts {n : Nat} {t : List Int} (h : triB n t = true) : t.length = 3 ∧ (∀ i, i < 3 → 0 ≤ t.getD i 0 ∧ (t.getD i 0).toNat < n) := by
  unfold triB at h
  simp only [Bool.and_eq_true, decide_eq_true_eq] at h
  obtain ⟨⟨h3, ⟨h0, h1⟩, h2⟩, _⟩ := h
  refine ⟨h3, fun i hi => ?_⟩
  have a0 := of_decide_eq_true h0
  have a1 := of_decide_eq_true h1
  have a2 := of_decide_eq_true h2
  have : i = 0 ∨ i = 1 ∨ i = 2 := by omega
  rcases this with rfl | rfl | rfl <;> omega
theorem valid_row {cs : List C3} {ts : List (List Int)} {k : Nat} (h : validB cs ts = true) (hk : k < ts.length) : triB cs.length (ts.getD k []) = true := by
  unfold validB at h
  simp only [Bool.and_eq_true] at h
  have := List.all_eq_true.1 h.2 (ts[k]) (List.getElem_mem hk)
  simpa [List.getD, hk] using this
/-- A corner of a triangle of a valid mesh lies in memory. -/
theorem corner_cell {w : World} {pa : Option Addr} {pl pc : Nat} {cs : List C3} {t : List Int} (hp : IsVs w pa pl pc cs) (ht : triB pl t = true) : ∃ b o, pa = some ⟨b, o, none⟩ ∧ ∀ i, i < 3 → ∃ p q r, w.cell? ⟨b, o + (t.getD i 0).toNat * 3, none⟩ = some (.float .f32 p) ∧ w.cell? ⟨b, o + (t.getD i 0).toNat * 3 + 1, none⟩ = some (.float .f32 q) ∧ w.cell? ⟨b, o + (t.getD i 0).toNat * 3 + 2, none⟩ = some (.float .f32 r) ∧
    FV .f32 p (cornerC cs t i).1 ∧ FV .f32 q (cornerC cs t i).2.1 ∧ FV .f32 r (cornerC cs t i).2.2 := by
  obtain ⟨h3, hi⟩ := tri_parts ht
  obtain ⟨b, o, e, hc⟩ := hp.some (by have := (hi 0 (by decide)).2; omega)
  exact ⟨b, o, e, fun i hi' => hc _ (hi i hi').2⟩
/-- What one operation keeps that makes a box or fills one. -/
def Keep (B : Nat) (w1 w2 : World) : Prop := Below B w1 w2 ∧ w1.heap.size ≤ w2.heap.size ∧ (∀ n i, (∃ v, w1.cell? ⟨n, i, none⟩ = some v) → ∃ v, w2.cell? ⟨n, i, none⟩ = some v) ∧ (∀ n i, n < w1.heap.size → w2.frozen? ⟨n, i, none⟩ = w1.frozen? ⟨n, i, none⟩)
theorem Keep.refl (B : Nat) (w : World) : Keep B w w := ⟨Below.refl _ _, Nat.le_refl _, fun _ _ h => h, fun _ _ _ => rfl⟩
theorem Keep.alloc {B : Nat} {w : World} (hB : B ≤ w.heap.size) (o : Obj) : Keep B w (w.alloc o) :=
  ⟨(Below.refl _ _).alloc hB _, by simp, fun n i ⟨v, hv⟩ => ⟨v, cell_alloc hv⟩, fun n i hn => by
    have hb : Below w.heap.size w (w.alloc o) := (Below.refl _ _).alloc (Nat.le_refl _) _
    exact hb.frozen (p := ⟨n, i, none⟩) hn⟩
theorem Keep.set {B : Nat} {w : World} {n o : Nat} {u : Value} (hB : B ≤ n) : Keep B w (w.setCell ⟨n, o, none⟩ u) :=
  ⟨(Below.refl _ _).setCell hB _, by simp, fun m i ⟨v, hv⟩ => by
    by_cases h : (⟨n, o, none⟩ : Addr) = ⟨m, i, none⟩
    · rw [h]; exact ⟨u, World.cell?_setCell_same _ _ _ hv⟩
    · exact ⟨v, by rw [World.cell?_setCell_other _ _ _ _ h]; exact hv⟩, fun m i _ => by simp⟩
theorem Keep.trans {B : Nat} {w1 w2 w3 : World} (h : Keep B w1 w2) (h' : Keep B w2 w3) : Keep B w1 w3 :=
  ⟨h.1.trans h'.1, Nat.le_trans h.2.1 h'.2.1, fun n i hv => h'.2.2.1 n i (h.2.2.1 n i hv), fun n i hn => (h'.2.2.2 n i (Nat.lt_of_lt_of_le hn h.2.1)).trans (h.2.2.2 n i hn)⟩
/-- A box of three cells that can be written. -/
def Box (B n : Nat) (w : World) : Prop := B ≤ n ∧ n < w.heap.size ∧ (∃ u0 u1 u2, w.cell? ⟨n, 0, none⟩ = some u0 ∧ w.cell? ⟨n, 1, none⟩ = some u1 ∧ w.cell? ⟨n, 2, none⟩ = some u2) ∧ (w.frozen? ⟨n, 0, none⟩ = false ∧ w.frozen? ⟨n, 1, none⟩ = false ∧ w.frozen? ⟨n, 2, none⟩ = false)
theorem Box.keep {B n : Nat} {w1 w2 : World} (h : Box B n w1) (k : Keep B w1 w2) : Box B n w2 := by
  obtain ⟨h1, h2, ⟨u0, u1, u2, e0, e1, e2⟩, f0, f1, f2⟩ := h
  obtain ⟨k1, k2, k3, k4⟩ := k
  obtain ⟨v0, e0⟩ := k3 n 0 ⟨_, e0⟩
  obtain ⟨v1, e1⟩ := k3 n 1 ⟨_, e1⟩
  obtain ⟨v2, e2⟩ := k3 n 2 ⟨_, e2⟩
  exact ⟨h1, Nat.lt_of_lt_of_le h2 k2, ⟨v0, v1, v2, e0, e1, e2⟩, by rw [k4 n 0 h2]; exact f0, by rw [k4 n 1 h2]; exact f1, by rw [k4 n 2 h2]; exact f2⟩
end Go.Proofs.Ytajglpkeojaelaa

/-
Texts in one: what PartsOf stands on, part 27. Conditions: those of each.
-/
import Derived.Test.YtnbfaedopjkgpaaGreatKPartsOf26
import Derived.Lib.SliceRun
import Derived.Handy
import Derived.Lib.AppendZeros
import Derived.Lib.SmallJoins

/-
What holds leave of forces: the model. Conditions: the lists lie in memory, every place of a hold is one of the forces'.
-/
namespace Go.Proofs.YtnbfaedopjkgpaaGreat
open Go Fk Go.RowKit
set_option linter.unusedVariables false
set_option maxRecDepth 16000

/-- One hold leaves of the forces. -/
def leave1 (X : List C3) (h : HC) : List C3 := X.set h.1.toNat (leaveC h (X.getD h.1.toNat c0))
def leaveF (hs : List HC) (fs : List C3) : List C3 := hs.foldl leave1 fs
theorem leaveF_snoc (hs : List HC) (fs : List C3) (k : Nat) (hk : k < hs.length) : leaveF (hs.take (k + 1)) fs = leave1 (leaveF (hs.take k) fs) (hs.getD k hd0) := by
  rw [List.take_succ_eq_append_getElem hk]
  unfold leaveF
  rw [List.foldl_append]
  simp [List.getD, hk]
theorem leaveF_len (hs : List HC) (fs : List C3) : (leaveF hs fs).length = fs.length := by
  induction hs generalizing fs with
  | nil => rfl
  | cons h t ih => show (leaveF t (leave1 fs h)).length = _; rw [ih]; simp [leave1]
/-- A list of vectors that a call returns: none, or one that may be written. -/
def RV (base : Nat) (w : World) (v : Value) (X : List C3) : Prop := ∃ a cap, v = .slice a X.length cap ∧ IsVs w a X.length cap X ∧ Lst base w.heap.size w a (X.length * 3)
theorem RV.nil (base : Nat) (w : World) : RV base w (.slice none 0 0) [] :=
  ⟨none, 0, rfl, ⟨rfl, Nat.le_refl _, by unfold maxLen; omega, fun _ => ⟨rfl, rfl⟩, fun x hx => by cases hx⟩, .inl ⟨rfl, rfl⟩⟩
theorem RV.block {base g cap : Nat} {w : World} {X : List C3} (hg : base ≤ g) (h1 : X.length ≤ cap) (h2 : cap ≤ maxLen) (h : OwnVs w g X) : RV base w (.slice (some ⟨g, 0, none⟩) X.length cap) X := by
  refine ⟨_, cap, rfl, ⟨rfl, h1, h2, by simp, fun x hx i hi => ?_⟩, .inr ⟨g, rfl, hg, h.2.2, h.2.2, fun j hj => ⟨?_, by rw [Nat.zero_add]; exact h.2.1 j⟩⟩⟩
  · cases hx
    obtain ⟨p, q, r, ⟨k0, k1, k2⟩, f⟩ := h.1.2 i hi
    exact ⟨p, q, r, by rw [addr_add', Nat.zero_add]; exact k0, by rw [addr_add', Nat.zero_add]; exact k1, by rw [addr_add', Nat.zero_add]; exact k2, f⟩
  · obtain ⟨p, q, r, ⟨k0, k1, k2⟩, f⟩ := h.1.2 (j / 3) (by omega)
    rw [Nat.zero_add]
    have : j = j / 3 * 3 ∨ j = j / 3 * 3 + 1 ∨ j = j / 3 * 3 + 2 := by omega
    rcases this with e | e | e
    · exact ⟨_, by rw [e]; exact k0⟩
    · exact ⟨_, by rw [e]; exact k1⟩
    · exact ⟨_, by rw [e]; exact k2⟩
/-- What append makes is none, or a block of its own. -/
theorem own_block {w : World} {base n : Nat} {v : Value} {xs : List Value} {cs : List C3} (h : w.ownsRow base 40 3 v n xs) (hp : PV n xs cs) (hn : cs.length = n) :
    (v = .slice none 0 0 ∧ n = 0) ∨ ∃ g cap, v = .slice (some ⟨g, 0, none⟩) n cap ∧ base ≤ g ∧ n ≤ cap ∧ cap ≤ maxLen ∧ OwnVs w g cs := by
  have h' := h
  obtain ⟨h1, h2⟩ := h
  rcases h2 with ⟨rfl, hz⟩ | ⟨g, cap, cur, rfl, hb, hh, hc1, hc2, hs, ht⟩
  · exact .inl ⟨rfl, hz⟩
  · refine .inr ⟨g, cap, rfl, hb, hc1, hc2, ⟨by omega, fun i hi => ?_⟩, fun j => h'.frozenAt j, (h'.lt g rfl).2⟩
    obtain ⟨p, q, r, e0, e1, e2, f⟩ := hp i (by omega)
    exact ⟨p, q, r, ⟨by rw [h'.cellAt _ (by omega)]; exact e0, by rw [h'.cellAt _ (by omega)]; exact e1, by rw [h'.cellAt _ (by omega)]; exact e2⟩, f⟩
theorem step_in {n : Nat} {hs : List HC} {k : Nat} (h : stepB n hs k = true) : inB n (hs.getD k hd0).1 = true := by
  unfold stepB at h; simp only [Bool.and_eq_true] at h; exact h.2.1
end Go.Proofs.YtnbfaedopjkgpaaGreat


/-
What holds leave of forces: the program and its model. Conditions: none beyond that all lie in memory.
-/
namespace Go.Proofs.YtnbfaedopjkgpaaGreat
open Go Fk Go.RowKit
set_option linter.unusedVariables false
set_option maxRecDepth 16000

def hofB (cs : List C3) (ts : List (List Int)) (hs : List HC) (fl : Nat) : Bool := areB cs ts hs && decide (fl = cs.length)
def hofL (cs : List C3) (ts : List (List Int)) (hs : List HC) (fs : List C3) (fl : Nat) : List C3 := bif hofB cs ts hs fl then leaveF hs fs else []
theorem clone_vecs (a : Option Addr) (n c : Nat) (cs : List C3) (w : World) (h : IsVs w a n c cs) (hn : n ≤ 1048576) :
    Calls Tryz.prog 68 #[.slice a n c] w fun e w' => (∃ v xs, e = .returned v ∧ w'.ownsRow w.heap.size 40 3 v n xs ∧ PV n xs cs) ∧ Below w.heap.size w w' := by
  obtain ⟨i0, hi, hz0, hz1, hz2⟩ := info_parts infoV
  obtain ⟨xs, x1, x2, x3, x4⟩ := vs_cells h
  have h0 := h.2.2.2.1
  have X2 := Lib.hid x2
  have X3 := Lib.hid x3
  have X4 := Lib.hid x4
  have X1 := Lib.hid x1
  clear x1 x2 x3 x4 h
  have q : ∀ (w : World) (a : Option Addr) (n c : Nat), (binOp .eql 36 (.slice a n c) (.slice none 0 0)).run Tryz.prog w = .ok (.bool a.isNone) w := fun w a n c => Lib.run_eql_slice_nil w _ _ a n c 0 0 Tryz.underlying36
  cases a with
  | none =>
    obtain ⟨rfl, rfl⟩ := h0 rfl
    go_enter Tryz.func68, Tryz.ntmps68
    go_wp2
    refine bodyPost_ret (v := .slice none 0 0) (by simp [results, Tryz.results68, go_sem]) rfl ?_
    exact ⟨⟨_, rfl, [], World.ownsRow_nil _ _ _ _, fun j hj => absurd hj (by omega)⟩, Below.refl _ _⟩
  | some x =>
    have HST := Lib.hid (World.ownsRow_lit (base := w.heap.size) (e := 40) (size := 3) w #[] 0 (Nat.le_refl _) (by decide) rfl)
    go_enter Tryz.func68, Tryz.ntmps68
    go_wp2_with (at_builtin; refine wpList_append_opt _ rfl _ _ 36 rfl w.heap.size 40 i0 (.agg #[.float .f32 0, .float .f32 0, .float .f32 0]) 3 12 Tryz.underlying36 hi hz0 hz1 hz2 rfl (by decide) _ 0 [] rfl HST.out (some x) n c xs rfl (fun h => by cases h) X1.out ?c2 ?c3 ?c4 ?c5 ?c6 ?_)
    case c2 =>
      intro j u hu
      have := X2.out x rfl j u hu
      rw [World.cell?_alloc_lt (h := World.block_lt_of_cell? _ _ this)]
      exact this
    case c3 => exact X3.out
    case c4 => unfold maxLen; omega
    case c5 => omega
    · intro v w1 hown hgrow
      have hown' : w1.ownsRow w.heap.size 40 3 v n xs := by simpa using hown
      have hB1 : Below w.heap.size w w1 := ((Below.refl _ _).alloc (Nat.le_refl _) _).grown hgrow (by simp) (fun k hk => by simp [Value.ownBlock] at hk; omega)
      have HO := Lib.hid hown'
      have HB := Lib.hid hB1
      clear hown hgrow hown' hB1
      go_wp2
      refine bodyPost_ret (v := v) (by simp [results, Tryz.results68, go_sem]) rfl ?_
      exact ⟨⟨v, xs, rfl, HO.out, X4.out⟩, HB.out⟩
theorem RV.low {base base' : Nat} {w : World} {v : Value} {X : List C3} (h : RV base w v X) (hb : base' ≤ base) : RV base' w v X := by
  obtain ⟨a, cap, e, h1, h2⟩ := h
  exact ⟨a, cap, e, h1, h2.imp id fun ⟨b, e, k1, k2, k3, k4⟩ => ⟨b, e, Nat.le_trans hb k1, k2, k3, k4⟩⟩
end Go.Proofs.YtnbfaedopjkgpaaGreat


/-
Lists of vectors that the library joins: slices.Grow of a list that is nil. Conditions: none.
-/
namespace Go.Proofs.YtnbfaedopjkgpaaGreat
open Go Fk Go.RowKit
set_option linter.unusedVariables false
set_option maxRecDepth 16000

/-- The cells of two lists, one after the other. -/
theorem pv_append {n m : Nat} {xs ys : List Value} {cs ds : List C3} (hx : xs.length = n * 3) (hc : cs.length = n) (h : PV n xs cs) (k : PV m ys ds) : PV (n + m) (xs ++ ys) (cs ++ ds) := by
  intro i hi
  by_cases hlt : i < n
  · obtain ⟨p, q, r, e0, e1, e2, f⟩ := h i hlt
    refine ⟨p, q, r, by rw [List.getElem?_append_left (by omega)]; exact e0, by rw [List.getElem?_append_left (by omega)]; exact e1, by rw [List.getElem?_append_left (by omega)]; exact e2, ?_⟩
    rw [show (cs ++ ds).getD i c0 = cs.getD i c0 by simp [List.getD, List.getElem?_append_left (show i < cs.length by omega)]]
    exact f
  · obtain ⟨p, q, r, e0, e1, e2, f⟩ := k (i - n) (by omega)
    refine ⟨p, q, r, by rw [List.getElem?_append_right (by omega), show i * 3 - xs.length = (i - n) * 3 by omega]; exact e0, by rw [List.getElem?_append_right (by omega), show i * 3 + 1 - xs.length = (i - n) * 3 + 1 by omega]; exact e1, by rw [List.getElem?_append_right (by omega), show i * 3 + 2 - xs.length = (i - n) * 3 + 2 by omega]; exact e2, ?_⟩
    rw [show (cs ++ ds).getD i c0 = ds.getD (i - n) c0 by simp [List.getD, List.getElem?_append_right (show cs.length ≤ i by omega), hc]]
    exact f
/-- What has been appended after k of two lists. -/
def cat2 (n m k : Nat) : Nat := if k = 0 then 0 else if k = 1 then n else n + m
def catC (cs ds : List C3) (k : Nat) : List C3 := if k = 0 then [] else if k = 1 then cs else cs ++ ds
end Go.Proofs.YtnbfaedopjkgpaaGreat


/-
All corners of a mesh, as a list of the call's own. Conditions: the mesh lies in memory, its rows are of three.
-/
namespace Go.Proofs.YtnbfaedopjkgpaaGreat
open Go Fk Go.RowKit
set_option linter.unusedVariables false
set_option maxRecDepth 8000

/-- A block of corners. -/
def CB (w : World) (g n : Nat) : Prop := ∃ cur, w.heap[g]? = some (.cells cur 140 (0, 0)) ∧ cur.size = n * 3
theorem CB.set {w : World} {g n : Nat} (h : CB w g n) (i : Nat) (v : Value) : CB (w.setCell ⟨g, i, none⟩ v) g n := by
  obtain ⟨cur, h1, h2⟩ := h
  exact ⟨_, Joins.block_setCell h1 v, by simp [h2]⟩
theorem owns_of_cs {w : World} {base g n : Nat} {ts : List (List Int)} (h : CB w g n) (hc : IsCs w g n ts) (hb : base ≤ g) (hn : n ≤ maxLen) : w.ownsRow base 140 3 (.slice (some ⟨g, 0, none⟩) n n) n (flatV ts n) := by
  obtain ⟨cur, h1, h2⟩ := h
  have hcell : ∀ i, w.cell? ⟨g, i, none⟩ = cur[i]? := fun i => by simp [World.cell?, h1]
  refine ⟨flatV_len ts n, .inr ⟨g, n, cur, rfl, hb, h1, Nat.le_refl _, hn, h2, ?_⟩⟩
  have key : ∀ k, k ≤ n → cur.toList.take (k * 3) = flatV ts k := by
    intro k
    induction k with
    | zero => intro _; simp [flatV]
    | succ k ih =>
      intro hk
      obtain ⟨e0, e1, e2⟩ := hc k (by omega)
      rw [hcell] at e0 e1 e2
      have hl : k * 3 + 2 < cur.toList.length := by simp; omega
      rw [show (k + 1) * 3 = k * 3 + 1 + 1 + 1 by omega, List.take_add_one, List.take_add_one, List.take_add_one, ih (by omega)]
      simp only [Array.getElem?_toList] at *
      rw [e0, e1, e2]
      simp [flatV]
  exact key n (Nat.le_refl _)
set_option maxHeartbeats 1000000 in
theorem all_cornersO (pa ta : Option Addr) (pl pc tl tc : Nat) (ts : List (List Int)) (w : World) (h : IsTs w ta tl tc ts) (h3 : ∀ k, k < tl → (ts.getD k []).length = 3) (hlen : tl ≤ 128) :
    Calls Tryz.prog 99 #[.agg #[.slice pa pl pc, .slice ta tl tc]] w fun e w' => e = .returned (.slice (some ⟨w.heap.size + 1, 0, none⟩) tl tl) ∧ IsCs w' (w.heap.size + 1) tl ts ∧ Below w.heap.size w w' ∧ w.heap.size + 1 < w'.heap.size ∧ (∀ i, w'.frozen? ⟨w.heap.size + 1, i, none⟩ = false) ∧ CB w' (w.heap.size + 1) tl := by
  have ui := Tryz.underlying38
  have uc := Tryz.underlying140
  obtain ⟨i0, hi, hz0, hz1, hz2⟩ := info_parts infoC
  have hmk : (Instr.makeSlice 137 (.int .i64 tl) (.int .i64 tl)).run Tryz.prog (w.alloc (.cells #[.slice pa pl pc, .slice ta tl tc] 38)) = .ok (.slice (some ⟨w.heap.size + 1, 0, none⟩) tl tl) ((w.alloc (.cells #[.slice pa pl pc, .slice ta tl tc] 38)).alloc (.cells (madeCells #[.int .i64 0, .int .i64 0, .int .i64 0] (tl * 3)) 140)) := by
    have := run_make (P := Tryz.prog) (w.alloc (.cells #[.slice pa pl pc, .slice ta tl tc] 38)) 137 140 i0 (.agg #[.int .i64 0, .int .i64 0, .int .i64 0]) Tryz.underlying137 hi hz0 .i64 .i64 tl tl (by omega) (Int.le_refl _) (by rw [hz2]; omega) (by omega)
    rw [this, hz1]; simp; rfl
  have hstart : Below w.heap.size w ((w.alloc (.cells #[.slice pa pl pc, .slice ta tl tc] 38)).alloc (.cells (madeCells #[.int .i64 0, .int .i64 0, .int .i64 0] (tl * 3)) 140)) ∧ w.heap.size + 1 < ((w.alloc (.cells #[.slice pa pl pc, .slice ta tl tc] 38)).alloc (.cells (madeCells #[.int .i64 0, .int .i64 0, .int .i64 0] (tl * 3)) 140)).heap.size ∧
      (∀ j, j < tl * 3 → ∃ v, ((w.alloc (.cells #[.slice pa pl pc, .slice ta tl tc] 38)).alloc (.cells (madeCells #[.int .i64 0, .int .i64 0, .int .i64 0] (tl * 3)) 140)).cell? ⟨w.heap.size + 1, j, none⟩ = some v) ∧ (∀ j, ((w.alloc (.cells #[.slice pa pl pc, .slice ta tl tc] 38)).alloc (.cells (madeCells #[.int .i64 0, .int .i64 0, .int .i64 0] (tl * 3)) 140)).frozen? ⟨w.heap.size + 1, j, none⟩ = false) := by
    refine ⟨((Below.refl _ _).alloc (Nat.le_refl _) _).alloc (by simp) _, by simp, fun j hj => ?_, fun j => by simp⟩
    have := made_cell3 (w.alloc (.cells #[.slice pa pl pc, .slice ta tl tc] 38)) #[.int .i64 0, .int .i64 0, .int .i64 0] (tl * 3) j 140 hj
    simpa using this
  have HST := Lib.hid hstart
  have CB0 : Hid (CB ((w.alloc (.cells #[.slice pa pl pc, .slice ta tl tc] 38)).alloc (.cells (madeCells #[.int .i64 0, .int .i64 0, .int .i64 0] (tl * 3)) 140)) (w.heap.size + 1) tl) := Lib.hid ⟨madeCells #[.int .i64 0, .int .i64 0, .int .i64 0] (tl * 3), by have := heap_alloc_new (w.alloc (.cells #[.slice pa pl pc, .slice ta tl tc] 38)) (.cells (madeCells #[.int .i64 0, .int .i64 0, .int .i64 0] (tl * 3)) 140); simpa using this, by simp [madeCells]⟩
  clear hstart
  go_enter Tryz.func99, Tryz.ntmps99
  go_wp2
  generalize hw0 : (w.alloc (.cells #[.slice pa pl pc, .slice ta tl tc] 38)).alloc (.cells (madeCells #[.int .i64 0, .int .i64 0, .int .i64 0] (tl * 3)) 140) = w0 at HST CB0 ⊢
  go_loopw [13] (fun i w' => ∃ k : Nat, k ≤ tl ∧ i = .int .i64 k ∧ Aside ((Below w.heap.size w w' ∧ w.heap.size + 1 < w'.heap.size ∧ (∀ j, j < tl * 3 → ∃ v, w'.cell? ⟨w.heap.size + 1, j, none⟩ = some v) ∧ (∀ j, w'.frozen? ⟨w.heap.size + 1, j, none⟩ = false)) ∧ IsCs w' (w.heap.size + 1) k ts ∧ CB w' (w.heap.size + 1) tl)) (fun i _ => tl - (intOf i).toNat)
  case atStart => exact ⟨0, Nat.zero_le _, rfl, HST.out, fun j hj => absurd hj (by omega), CB0.out⟩
  case round =>
    obtain ⟨k, hk, rfl, hA⟩ := hrel
    by_cases hlt : k < tl
    · obtain ⟨⟨hB, hgs, hce, hfz⟩, hdone, hcb⟩ := hA.out
      have HCB := Lib.hid hcb
      clear hcb
      have h' := h.below hB
      obtain ⟨bt, ot, rfl, hrow⟩ := h'.some (by omega)
      obtain ⟨r1, n1, q1, cr, ir⟩ := hrow k hlt
      have hn1 : n1 = 3 := ir.1.symm.trans (h3 k hlt)
      subst hn1
      obtain ⟨br, or, rfl, hz⟩ := ir.some (by decide)
      have z0 := hz 0 (by decide)
      have z1 := hz 1 (by decide)
      have z2 := hz 2 (by decide)
      rw [Nat.add_zero] at z0
      have hk0 : (0 : Int) ≤ (k : Int) := by omega
      have hk1 : (k : Int) < (tl : Int) := by omega
      have hf0 := hfz (k * 3)
      have hf1 := hfz (k * 3 + 1)
      have hf2 := hfz (k * 3 + 2)
      obtain ⟨v0, hv0⟩ := hce (k * 3) (by omega)
      obtain ⟨v1, hv1⟩ := hce (k * 3 + 1) (by omega)
      obtain ⟨v2, hv2⟩ := hce (k * 3 + 2) (by omega)
      have HD := Lib.hid hdone
      have HC := Lib.hid hce
      have HF := Lib.hid hfz
      have HB := Lib.hid hB
      generalize hj0 : (ts.getD k []).getD 0 0 = j0 at *
      generalize hj1 : (ts.getD k []).getD 1 0 = j1 at *
      generalize hj2 : (ts.getD k []).getD 2 0 = j2 at *
      have HJ := Lib.hid (And.intro hj0 (And.intro hj1 hj2))
      clear hA hrow h' hdone hce hfz hB h hw0 HST CB0 hmk ir hz hj0 hj1 hj2 h3 hi
      go_wp2
      rename_i hKc
      refine hKc _ _ ?_
      go_wp2
      go_roundw
      case rel =>
        obtain ⟨e0, e1, e2, eo⟩ := set3k (u := .int .i64 j0) (v := .int .i64 j1) (t := .int .i64 j2) hv0 hv1 hv2
        refine ⟨k + 1, by omega, by go_num, ⟨⟨((HB.out.setCell (Nat.le_succ _) _).setCell (Nat.le_succ _) _).setCell (Nat.le_succ _) _, by simp <;> omega, fun j hj => ?_, fun j => ?_⟩, fun j hj => ?_, ((HCB.out.set _ _).set _ _).set _ _⟩⟩
        · by_cases h0 : j = k * 3
          · subst h0; exact ⟨_, e0⟩
          · by_cases h1 : j = k * 3 + 1
            · subst h1; exact ⟨_, e1⟩
            · by_cases h2 : j = k * 3 + 2
              · subst h2; exact ⟨_, e2⟩
              · obtain ⟨v, hv⟩ := HC.out j hj
                exact ⟨v, by rw [eo j h0 h1 h2]; exact hv⟩
        · simp; exact HF.out j
        · by_cases hjk : j = k
          · subst hjk; rw [HJ.out.1, HJ.out.2.1, HJ.out.2.2]; exact ⟨e0, e1, e2⟩
          · obtain ⟨k0, k1, k2⟩ := HD.out j (by omega)
            exact ⟨by rw [eo _ (by omega) (by omega) (by omega)]; exact k0, by rw [eo _ (by omega) (by omega) (by omega)]; exact k1, by rw [eo _ (by omega) (by omega) (by omega)]; exact k2⟩
      case measure => simp [intOf]; omega
    · obtain rfl : k = tl := by omega
      obtain ⟨⟨hB, hgs, hce, hfz⟩, hdone, hcb⟩ := hA.out
      have HCB := Lib.hid hcb
      clear hcb
      have HF := Lib.hid hdone
      have HB := Lib.hid hB
      have HZ := Lib.hid hfz
      clear hA hB hce hfz hdone h h3 hmk hw0 HST CB0
      go_wp2
      go_ret
      exact ⟨rfl, HF.out, HB.out, hgs, HZ.out, HCB.out⟩
end Go.Proofs.YtnbfaedopjkgpaaGreat

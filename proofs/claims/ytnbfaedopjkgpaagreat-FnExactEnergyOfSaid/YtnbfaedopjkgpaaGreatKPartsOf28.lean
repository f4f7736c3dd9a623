/-
Texts in one: what PartsOf stands on, part 28. Conditions: those of each.
-/
import Derived.Test.YtnbfaedopjkgpaaGreatKPartsOf27

/-
Meshes that are finished: valid, or none. Conditions: places and corners lie in lists of one's own.
-/
namespace Go.Proofs.YtnbfaedopjkgpaaGreat
open Go Fk Go.RowKit
set_option linter.unusedVariables false
set_option maxRecDepth 8000
end Go.Proofs.YtnbfaedopjkgpaaGreat


/-
The laws of forms return true: their walks. Conditions: what the program and the model return.
-/
namespace Go.Proofs.YtnbfaedopjkgpaaGreat
open Go Fk Go.RowKit
set_option linter.unusedVariables false
set_option maxRecDepth 16000
end Go.Proofs.YtnbfaedopjkgpaaGreat


/-
Grids: their places and triangles, and what is asked of their numbers. Conditions: none.
-/
namespace Go.Proofs.YtnbfaedopjkgpaaGreat
open Go Fk Go.RowKit
set_option linter.unusedVariables false
set_option maxRecDepth 8000
theorem fv_int32 (n : Int) : FV .f32 (floatOfInt .f32 n) (some (floatOfInt .f32 n)) :=
  ⟨FloatKind.f32.format.write_lt (.number (n < 0) n.natAbs 0), cls_num (isNaN_write .f32 (.number (n < 0) n.natAbs 0) rfl)⟩
theorem fv00 : FV .f32 0 (some 0) := ⟨by decide, by decide⟩
def countB (n : Int) : Bool := decide (1 ≤ n ∧ n < 64)
theorem l00In' (n a b : Int) (w : World) :
    Calls Tryz.prog 62 #[.int .i64 n, .int .i64 a, .int .i64 b] w fun e w' => e = .returned (.bool (decide (a ≤ n ∧ n ≤ b))) ∧ w' = w := by
  by_cases h1 : a ≤ n
  · by_cases h2 : n ≤ b
    · rw [decide_eq_true (And.intro h1 h2)]
      go_enter Tryz.func62, Tryz.ntmps62
      go_wp2
      go_ret
      exact ⟨ret_bool (by simp), rfl⟩
    · rw [decide_eq_false (fun h => h2 h.2)]
      go_enter Tryz.func62, Tryz.ntmps62
      go_wp2
      go_ret
      exact ⟨ret_bool (by simp), rfl⟩
  · rw [decide_eq_false (fun h => h1 h.1)]
    go_enter Tryz.func62, Tryz.ntmps62
    go_wp2
    go_ret
    exact ⟨rfl, rfl⟩
/-- The place with the number p of a grid of rows of W places. -/
def gridC (z : Option Nat) (W p : Nat) : C3 := (fop .mul .f32 (some (floatOfInt .f32 ((p % W : Nat) : Int))) z, fop .mul .f32 (some (floatOfInt .f32 ((p / W : Nat) : Int))) z, some 0)
def gridI (v q : Nat) : Int := ((q % v + (v + 1) * (q / v) : Nat) : Int)
/-- The triangle with the number k of a grid of v cells in a row. -/
def triG (v k : Nat) : List Int := if k % 2 = 0 then [gridI v (k / 2), gridI v (k / 2) + 1, gridI v (k / 2) + v + 1 + 1] else [gridI v (k / 2), gridI v (k / 2) + v + 1 + 1, gridI v (k / 2) + v + 1]
def gridCs (z : Option Nat) (v h : Nat) : List C3 := (List.range ((h + 1) * (v + 1))).map (gridC z (v + 1))
def gridTs (v h : Nat) : List (List Int) := (List.range (h * v * 2)).map (triG v)
theorem gridCs_len (z : Option Nat) (v h : Nat) : (gridCs z v h).length = (h + 1) * (v + 1) := by unfold gridCs; simp
theorem gridTs_len (v h : Nat) : (gridTs v h).length = h * v * 2 := by unfold gridTs; simp
theorem gridTs_get {v h k : Nat} (hk : k < h * v * 2) : (gridTs v h).getD k [] = triG v k := by unfold gridTs; simp [List.getD, hk]
theorem gridCs_get {z : Option Nat} {v h k : Nat} (hk : k < (h + 1) * (v + 1)) : (gridCs z v h).getD k c0 = gridC z (v + 1) k := by unfold gridCs; simp [List.getD, hk]
theorem triG_len (v k : Nat) : (triG v k).length = 3 := by unfold triG; split <;> rfl
theorem gridI_at {v x y : Nat} (hx : x < v) : gridI v (y * v + x) = (x : Int) + ((v : Int) + 1) * y := by
  unfold gridI
  have h1 : (y * v + x) % v = x := by rw [Nat.mul_comm, Nat.mul_add_mod]; exact Nat.mod_eq_of_lt hx
  have h2 : (y * v + x) / v = y := by rw [Nat.mul_comm, Nat.mul_add_div (by omega)]; simp [Nat.div_eq_of_lt hx]
  rw [h1, h2]; push_cast; rfl
theorem gridC_at {z : Option Nat} {W x y : Nat} (hx : x < W) : gridC z W (y * W + x) = (fop .mul .f32 (some (floatOfInt .f32 (x : Int))) z, fop .mul .f32 (some (floatOfInt .f32 (y : Int))) z, some 0) := by
  unfold gridC
  have h1 : (y * W + x) % W = x := by rw [Nat.mul_comm, Nat.mul_add_mod]; exact Nat.mod_eq_of_lt hx
  have h2 : (y * W + x) / W = y := by rw [Nat.mul_comm, Nat.mul_add_div (by omega)]; simp [Nat.div_eq_of_lt hx]
  rw [h1, h2]
theorem grid_q {v h x y : Nat} (hx : x < v) (hy : y < h) : y * v + x < h * v := by
  have : (y + 1) * v ≤ h * v := Nat.mul_le_mul_right _ hy
  rw [Nat.add_mul] at this; omega
theorem flat_step {v h q : Nat} (hq : q < h * v) {g : Int} (hg : gridI v q = g) : flatV (gridTs v h) ((q + 1) * 2) = flatV (gridTs v h) (q * 2) ++ [.int .i64 g, .int .i64 (g + 1), .int .i64 (g + v + 1 + 1), .int .i64 g, .int .i64 (g + v + 1 + 1), .int .i64 (g + v + 1)] := by
  have e1 : (gridTs v h).getD (q * 2) [] = [g, g + 1, g + v + 1 + 1] := by
    rw [gridTs_get (by omega)]; unfold triG; rw [if_pos (by omega), show q * 2 / 2 = q by omega, hg]
  have e2 : (gridTs v h).getD (q * 2 + 1) [] = [g, g + v + 1 + 1, g + v + 1] := by
    rw [gridTs_get (by omega)]; unfold triG; rw [if_neg (by omega), show (q * 2 + 1) / 2 = q by omega, hg]
  rw [show (q + 1) * 2 = q * 2 + 1 + 1 by omega]
  show flatV (gridTs v h) (q * 2) ++ _ ++ _ = _
  rw [e1, e2, List.append_assoc]
  rfl
theorem grid_wf {v h : Nat} (hv : v < 64) (hh : h < 64) : ∀ j, j < (gridTs v h).length → ∀ z ∈ (gridTs v h).getD j [], (Lit.int .i64 z).wf = true := fun j hj z hz => by
  rw [gridTs_len] at hj
  rw [gridTs_get hj] at hz
  have hq : j / 2 < h * v := by omega
  have h1 : gridI v (j / 2) ≤ 4096 := by
    unfold gridI
    have h2 : j / 2 / v < h := Nat.div_lt_of_lt_mul (by rw [Nat.mul_comm]; exact hq)
    have h3 : (v + 1) * (j / 2 / v) ≤ 64 * 62 := Nat.mul_le_mul (by omega) (by omega)
    have hp : 0 < v := by
      rcases Nat.eq_zero_or_pos v with e | e
      · rw [e, Nat.mul_zero] at hq; omega
      · exact e
    have h4 : j / 2 % v < v := Nat.mod_lt _ hp
    omega
  have h0 : 0 ≤ gridI v (j / 2) := by unfold gridI; omega
  refine WalkArith.wf_i64 ?_
  unfold triG at hz
  split at hz <;> simp at hz <;> omega
/-- Rows that lie beside one another in one list of one's own. -/
theorem cs_of_owns {w : World} {base cb c n : Nat} {ts : List (List Int)} (h : w.ownsRow base 140 3 (.slice (some ⟨cb, 0, none⟩) n c) n (flatV ts n)) : IsCs w cb n ts := fun k hk => by
  refine ⟨?_, ?_, ?_⟩
  · rw [h.cellAt _ (by omega)]; have := flatV_get ts n k 0 hk (by decide); simpa using this
  · rw [h.cellAt _ (by omega)]; exact flatV_get ts n k 1 hk (by decide)
  · rw [h.cellAt _ (by omega)]; exact flatV_get ts n k 2 hk (by decide)
theorem owns_block {w : World} {base n s : Nat} {e : TypeId} {v : Value} {xs : List Value} (h : w.ownsRow base e s v n xs) (hn : 0 < n) : ∃ g c, v = .slice (some ⟨g, 0, none⟩) n c := by
  rcases h.2 with ⟨_, e⟩ | ⟨g, c, _, rfl, _⟩
  · omega
  · exact ⟨g, c, rfl⟩
theorem rT_3' (cs : List C3) (ts : List (List Int)) : ∀ j, j < (rT cs ts).length → ((rT cs ts).getD j []).length = 3 := by
  cases hv : validB cs ts
  · rw [rT_no hv]; intro j hj; simp at hj
  · rw [rT_yes hv]; exact rows3h hv
theorem rV_len' (f : C3 → C3) (cs : List C3) (ts : List (List Int)) : (rV f cs ts).length ≤ 64 ∧ (rT cs ts).length ≤ 128 := by
  cases hv : validB cs ts
  · rw [rV_no hv, rT_no hv]; simp
  · rw [rV_yes hv, rT_yes hv, List.length_map]; exact valid_pl hv
theorem PVf.snoc {k : Nat} {xs : List Value} {F : Nat → C3} (h : PVf k xs F) (hl : xs.length = k * 3) {p q r : Nat} (hf : FV .f32 p (F k).1 ∧ FV .f32 q (F k).2.1 ∧ FV .f32 r (F k).2.2) :
    PVf (k + 1) (xs ++ [.float .f32 p, .float .f32 q, .float .f32 r]) F := fun j hj => by
  by_cases hjk : j = k
  · subst hjk
    refine ⟨p, q, r, ?_, ?_, ?_, hf⟩
    · rw [List.getElem?_append_right (by omega), hl]; simp
    · rw [List.getElem?_append_right (by omega), hl, show j * 3 + 1 - j * 3 = 1 by omega]; rfl
    · rw [List.getElem?_append_right (by omega), hl, show j * 3 + 2 - j * 3 = 2 by omega]; rfl
  · obtain ⟨p', q', r', h1, h2, h3, h4⟩ := h j (by omega)
    refine ⟨p', q', r', ?_, ?_, ?_, h4⟩
    · rw [List.getElem?_append_left (by omega)]; exact h1
    · rw [List.getElem?_append_left (by omega)]; exact h2
    · rw [List.getElem?_append_left (by omega)]; exact h3
theorem PVf.pv {n : Nat} {xs : List Value} {F : Nat → C3} {cs : List C3} (h : PVf n xs F) (hc : ∀ j, j < n → cs.getD j c0 = F j) : PV n xs cs := fun j hj => by
  obtain ⟨p, q, r, h1, h2, h3, h4⟩ := h j hj
  exact ⟨p, q, r, h1, h2, h3, by rw [hc j hj]; exact h4⟩
end Go.Proofs.YtnbfaedopjkgpaaGreat


/-
The edges of a mesh, each with its triangles: what the program gathers. Conditions: the mesh is valid and lies in memory.
-/
namespace Go.Proofs.YtnbfaedopjkgpaaGreat
open Go Fk Go.RowKit Go.Maps
open Go.ChangeShapes (lits)
set_option linter.unusedVariables false
set_option maxRecDepth 16000

def pairsT (t : List Int) (i : Nat) : List ((Int × Int) × Int) := (triE t).map fun e => (e, (i : Int))
def preI (ts : List (List Int)) (k j : Nat) : List ((Int × Int) × Int) := ((List.range k).flatMap fun i => pairsT (ts.getD i []) i) ++ (pairsT (ts.getD k []) k).take j
theorem preI_zero (ts : List (List Int)) : preI ts 0 0 = [] := by simp [preI]
theorem preI_next (ts : List (List Int)) (k : Nat) : preI ts k 3 = preI ts (k + 1) 0 := by
  unfold preI
  rw [List.range_succ, List.flatMap_append, List.flatMap_cons, List.flatMap_nil, List.append_nil, List.take_zero, List.append_nil]
  rfl
theorem preI_step {ts : List (List Int)} {k j : Nat} (hj : j < 3) : preI ts k (j + 1) = preI ts k j ++ [((triE (ts.getD k [])).getD j (0, 0), (k : Int))] := by
  match j, hj with
  | 0, _ => simp [preI, pairsT, triE]
  | 1, _ => simp [preI, pairsT, triE]
  | 2, _ => simp [preI, pairsT, triE]
set_option maxHeartbeats 8000000 in
theorem impl_edges (pa ta : Option Addr) (pl pc tl tc : Nat) (ts : List (List Int)) (w : World) (ht : IsTs w ta tl tc ts) (h3 : ∀ k, k < tl → (ts.getD k []).length = 3) (hin : ∀ k, k < tl → ∀ i, i < 3 → 0 ≤ (ts.getD k []).getD i 0 ∧ ((ts.getD k []).getD i 0).toNat < 64) (hlen : tl ≤ 128) :
    Calls Tryz.prog 129 #[.agg #[.slice pa pl pc, .slice ta tl tc]] w fun e w' => ∃ (B : Nat) (D : DataW Unit), e = .returned (.map (some B)) ∧ w.heap.size ≤ B ∧ w'.ownsGroups Tryz.prog 185 (B + 1) 2 .i64 B (3 * tl) D ∧ GroupsOf D (preI ts tl 0) ∧ Below w.heap.size w w' := by
  have ui := Tryz.underlying38
  have uc := Tryz.underlying140
  have us := Tryz.underlying210
  have ue := Tryz.underlying185
  obtain ⟨i0, hi, hz0, hz1, hz2⟩ := info_parts info64
  have htl := ht.1
  have hB0 : Below w.heap.size w (w.alloc (.cells #[.slice pa pl pc, .slice ta tl tc] 38)) := (Below.refl _ _).alloc (Nat.le_refl _) _
  have d0' : ((w.alloc (.cells #[.slice pa pl pc, .slice ta tl tc] 38)).alloc (.map #[] 0)).cell? ⟨w.heap.size, 0, none⟩ = some (.slice pa pl pc) := by go_simp
  have d1' : ((w.alloc (.cells #[.slice pa pl pc, .slice ta tl tc] 38)).alloc (.map #[] 0)).cell? ⟨w.heap.size, 1, none⟩ = some (.slice ta tl tc) := by go_simp
  have hBM : Below w.heap.size w ((w.alloc (.cells #[.slice pa pl pc, .slice ta tl tc] 38)).alloc (.map #[] 0)) := hB0.alloc hB0.size _
  have HBM := Lib.hid hBM
  have J2 := Lib.hid (all_cornersO pa ta pl pc tl tc ts ((w.alloc (.cells #[.slice pa pl pc, .slice ta tl tc] 38)).alloc (.map #[] 0)) (ht.below hBM) h3 hlen)
  have HO0 := Lib.hid (World.ownsGroups_made (H := Unit) (w.alloc (.cells #[.slice pa pl pc, .slice ta tl tc] 38)) Tryz.prog 185 2 .i64)
  have HV := Lib.hid hin
  rw [World.size_alloc] at HO0
  have hBle : w.heap.size ≤ w.heap.size + 1 := Nat.le_succ _
  have hBlt : w.heap.size + 1 < ((w.alloc (.cells #[.slice pa pl pc, .slice ta tl tc] 38)).alloc (.map #[] 0)).heap.size := by simp
  have hmm := @run_makeMap Tryz.prog
  have lt0 : w.heap.size < (w.alloc (.cells #[.slice pa pl pc, .slice ta tl tc] 38)).heap.size := by simp
  clear hB0 hBM ht hin h3
  go_enter Tryz.func129, Tryz.ntmps129
  go_wp2_with fail
  generalize ((w.alloc (.cells #[.slice pa pl pc, .slice ta tl tc] 38)).alloc (.map #[] 0)) = W at *
  clear d0' d1' lt0
  generalize w.heap.size + 1 = B at *
  refine J2.out.mono ?_
  rintro e V ⟨rfl, hC, hBV, hcV, _, hCB⟩
  generalize hcb : W.heap.size + 1 = cb at *
  have hne : cb ≠ B := by omega
  have HCO := Lib.hid (owns_of_cs hCB hC (Nat.le_refl cb) (by unfold maxLen; omega))
  have HOV := Lib.hid (groups_below HO0.out hBV)
  have HBV := Lib.hid (HBM.out.trans (hBV.mono HBM.out.size))
  clear hC hCB hBV hcV hcb HO0 HBM J2
  go_wp2
  go_loopw [12] (fun i w' => ∃ k : Nat, k ≤ tl ∧ i = .int .i64 k ∧ Aside (∃ D : DataW Unit, w'.ownsGroups Tryz.prog 185 (B + 1) 2 .i64 B (3 * k) D ∧ GroupsOf D (preI ts k 0) ∧ w'.ownsRow cb 140 3 (.slice (some ⟨cb, 0, none⟩) tl tl) tl (flatV ts tl) ∧ Below w.heap.size w w')) (fun i _ => tl - (intOf i).toNat)
  case atStart => exact ⟨0, Nat.zero_le _, rfl, _, HOV.out, by rw [preI_zero]; exact GroupsOf.nil, HCO.out, HBV.out⟩
  case round =>
    obtain ⟨k, hk, rfl, hA⟩ := hrel
    obtain ⟨D0, hO, hF, hCR, hB⟩ := hA.out
    by_cases hlt : k < tl
    · obtain ⟨c0, c1, c2⟩ := cs_of_owns hCR k hlt
      have hx := HV.out k hlt
      obtain ⟨p0, q0⟩ := hx 0 (by decide)
      obtain ⟨p1, q1⟩ := hx 1 (by decide)
      obtain ⟨p2, q2⟩ := hx 2 (by decide)
      generalize hx0 : (ts.getD k []).getD 0 0 = x0 at *
      generalize hx1 : (ts.getD k []).getD 1 0 = x1 at *
      generalize hx2 : (ts.getD k []).getD 2 0 = x2 at *
      have X0 := Lib.hid hx0
      have X1 := Lib.hid hx1
      have X2 := Lib.hid hx2
      have wk : (Lit.int .i64 (k : Int)).wf = true := WalkArith.wf_i64 (by omega)
      have hk0 : (0 : Int) ≤ (k : Int) := by omega
      have hk1 : (k : Int) < (tl : Int) := by omega
      have lcb : cb < wr.heap.size := (hCR.lt cb rfl).2
      have hBox : Below wr.heap.size wr (wr.alloc (.cells #[.int .i64 x0, .int .i64 x1, .int .i64 x2] 140)) := (Below.refl _ _).alloc (Nat.le_refl _) _
      have HO1 := Lib.hid (groups_below hO hBox)
      have HF := Lib.hid hF
      have HC1 := Lib.hid (owns_up hCR hBox)
      have HB0' := Lib.hid (hB.trans (hBox.mono hB.size))
      clear hA hO hF hCR hB hx hx0 hx1 hx2 hBox
      go_wp2_with (go_at_call 160; refine (impl_sides _ _ _ _).mono ?_; rintro e w3 ⟨rfl, hB3⟩; have HB3 := Lib.hid hB3; clear hB3)
      have HO2 := Lib.hid (groups_below HO1.out HB3.out)
      have HC2 := Lib.hid (owns_up HC1.out HB3.out)
      have HB2 := Lib.hid (HB0'.out.trans (HB3.out.mono HB0'.out.size))
      clear c0 c1 c2 lcb HO1 HC1 HB0' HB3
      go_loopw [19] (fun i w' => ∃ j : Nat, j ≤ 3 ∧ i = .int .i64 j ∧ Aside (∃ D : DataW Unit, w'.ownsGroups Tryz.prog 185 (B + 1) 2 .i64 B (3 * k + j) D ∧ GroupsOf D (preI ts k j) ∧ w'.ownsRow cb 140 3 (.slice (some ⟨cb, 0, none⟩) tl tl) tl (flatV ts tl) ∧ Below w.heap.size w w')) (fun i _ => 3 - (intOf i).toNat)
      case atStart => exact ⟨0, by omega, rfl, D0, HO2.out, HF.out, HC2.out, HB2.out⟩
      case round =>
        obtain ⟨j, hj, rfl, hA⟩ := hrel
        obtain ⟨D, hO, hF, hCR, hB⟩ := hA.out
        have HO := Lib.hid hO
        have HF := Lib.hid hF
        have HCR := Lib.hid hCR
        have HB1 := Lib.hid hB
        clear hA hO hF hCR hB HO2 HC2 HB2
        by_cases hlj : j < 3
        · obtain rfl | rfl | rfl : j = 0 ∨ j = 1 ∨ j = 2 := by omega
          · have hs : (triE (ts.getD k [])).getD 0 (0, 0) = (min x0 x1, max x0 x1) := by
              show eKey ((ts.getD k []).getD 0 0) ((ts.getD k []).getD 1 0) = _
              rw [X0.out, X1.out]; rfl
            have hix : ∀ w, (Instr.index 211 (.agg #[.int .i64 x0, .int .i64 x1, .int .i64 x1, .int .i64 x2, .int .i64 x2, .int .i64 x0]) (.int .i64 0)).run Tryz.prog w = .ok (.agg #[.int .i64 x0, .int .i64 x1]) w := side_ix x0 x1 x1 x2 x2 x0 0 (by decide)
            obtain ⟨p, hp⟩ : ∃ p, min x0 x1 = p := ⟨_, rfl⟩
            obtain ⟨q, hq⟩ : ∃ q, max x0 x1 = q := ⟨_, rfl⟩
            rw [hp, hq] at hs
            have wp : (Lit.int .i64 p).wf = true := WalkArith.wf_i64 (by omega)
            have wq : (Lit.int .i64 q).wf = true := WalkArith.wf_i64 (by omega)
            have HS := Lib.hid hs
            have HPQ := Lib.hid (And.intro hp hq)
            clear hs
            have HBX : Hid (Below wr.heap.size wr (wr.alloc (.cells #[.int .i64 x0, .int .i64 x1] 210))) := Lib.hid ((Below.refl _ _).alloc (Nat.le_refl _) _)
            have BX : Hid ((wr.alloc (.cells #[.int .i64 x0, .int .i64 x1] 210)).ownsRow wr.heap.size 210 2 (.slice (some ⟨wr.heap.size, 0, none⟩) 1 1) 1 [.int .i64 x0, .int .i64 x1]) := Lib.hid (by
              have := World.ownsRow_lit (base := wr.heap.size) (e := 210) (size := 2) wr #[.int .i64 x0, .int .i64 x1] 1 (Nat.le_refl _) (by decide) rfl
              simpa using this)
            have GR := Lib.hid (groups_below HO.out HBX.out)
            have hBw : B < wr.heap.size := by
              obtain ⟨es, clock, hb, _⟩ := HO.out
              exact (Array.getElem?_eq_some_iff.1 hb).1
            clear hp hq
            go_wp2_with fail
            have hp := HPQ.out.1
            have hq := HPQ.out.2
            refine Reg8.wp_region_mix (m := 9) (z := 10) (C := fun w' => Below (wr.alloc (.cells #[.int .i64 x0, .int .i64 x1] 210)).heap.size (wr.alloc (.cells #[.int .i64 x0, .int .i64 x1] 210)) w') (D := fun u w' => Ap (wr.alloc (.cells #[.int .i64 x0, .int .i64 x1] 210)) B (3 * k + 0) D (p, q) (grp (preI ts k 0) (p, q)) (k : Int) u w')
              (T := fun w' => w'.ownsGroups Tryz.prog 185 (B + 1) 2 .i64 B (3 * k + (0 + 1)) (D.put (kE (p, q)) (.slice (lits .i64 (grp (preI ts k 0) (p, q) ++ [(k : Int)])) [])) ∧ w'.ownsRow cb 140 3 (.slice (some ⟨cb, 0, none⟩) tl tl) tl (flatV ts tl) ∧ Below w.heap.size w w')
              (G := fun w1 w2 => Below w1.heap.size w1 w2)
              (Rv := fun i v => match i with | 0 => v = .map (some B) | 1 => v = .agg #[.int .i64 x0, .int .i64 x1] | 2 => v = .agg #[.int .i64 p, .int .i64 q] | 3 => v = .map (some B) | 4 => v = .agg #[.int .i64 x0, .int .i64 x1] | 5 => v = .agg #[.int .i64 p, .int .i64 q] | 7 => v = .int .i64 (k : Int) | _ => True)
              (Rw := fun i v w' => match i with | 6 => Lk B (3 * k + 0) D (p, q) (grp (preI ts k 0) (p, q)) v w' | 8 => ∃ g, v = .slice (some ⟨g, 0, none⟩) 1 1 ∧ w'.cell? ⟨g, 0, none⟩ = some (.int .i64 (k : Int)) | _ => True) [false, false, false, false, false, false, false, false, false, false, false, false, false, false, false, false, false, false, false, false, false, false, true, true, true, true, true, true, true, true, true, true, false, false, false]
              (by kernel_rfl) (by kernel_rfl) (by kernel_rfl) ?_ (below_drewN (Below.refl _ _) 1) ?_ ?_
            · intro j v w1 w2 hC hG hR
              match j with
              | 0 => trivial
              | 1 => trivial
              | 2 => trivial
              | 3 => trivial
              | 4 => trivial
              | 5 => trivial
              | 6 => exact hR.below hG
              | 7 => trivial
              | 8 => obtain ⟨g, e, hg⟩ := hR; exact ⟨g, e, cell_below hG hg⟩
              | _ + 9 => trivial
            · refine ⟨?_, ?_, ?_, ?_, ?_, ?_, ?_, ?_, ?_, ?_, ?_, trivial⟩
              · refine Reg8.Obl.any (by kernel_rfl) (by kernel_rfl) ?_ ?_
                · rintro a' w5 hC hx hd K hK
                  have HC := Lib.hid hC
                  clear hC
                  have t3 : a'.tmps[3]?.getD undef = .map (some B) := Reg.slot_val (hx 3 (by kernel_rfl))
                  go_simp
                  exact hK _ _ rfl trivial HC.out (Below.refl _ _)
                · rintro a' w5 u5 hD hx hd K hK
                  have HD := Lib.hid hD
                  clear hD
                  have t3 : a'.tmps[3]?.getD undef = .map (some B) := Reg.slot_val (hx 3 (by kernel_rfl))
                  go_simp
                  exact hK _ _ rfl HD.out
              · refine Reg8.Obl.any (by kernel_rfl) (by kernel_rfl) ?_ ?_
                · rintro a' w5 hC hx hd K hK
                  have HC := Lib.hid hC
                  clear hC
                  have t7 : a'.tmps[7]?.getD undef = .pointer (some ⟨wr.heap.size, 0, none⟩) := Reg.slot_val (hx 7 (by kernel_rfl))
                  have r5 := owns_up BX.out HC.out
                  have y0 := cell0_of r5
                  have y1 := cell1_of r5
                  clear r5
                  go_simp
                  exact hK _ _ rfl trivial HC.out (Below.refl _ _)
                · rintro a' w5 u5 hD hx hd K hK
                  have HD := Lib.hid hD
                  clear hD
                  have t7 : a'.tmps[7]?.getD undef = .pointer (some ⟨wr.heap.size, 0, none⟩) := Reg.slot_val (hx 7 (by kernel_rfl))
                  have r5 := HD.out.row BX.out (by decide)
                  have y0 := cell0_of r5
                  have y1 := cell1_of r5
                  clear r5
                  go_simp
                  exact hK _ _ rfl HD.out
              · refine Reg8.Obl.any (by kernel_rfl) (by kernel_rfl) ?_ ?_
                · rintro a' w5 hC hx hd K hK
                  have HC := Lib.hid hC
                  clear hC
                  have t23 : a'.tmps[23]?.getD undef = .agg #[.int .i64 x0, .int .i64 x1] := Reg.slot_val (hd 1 23 (by kernel_rfl) rfl)
                  go_simp
                  refine (side_edge x0 x1 w5).mono ?_
                  rintro en w6 ⟨rfl, hB6⟩
                  rw [hp, hq]
                  exact hK _ _ rfl trivial (HC.out.trans (hB6.mono HC.out.size)) hB6
                · rintro a' w5 u5 hD hx hd K hK
                  have HD := Lib.hid hD
                  clear hD
                  have t23 : a'.tmps[23]?.getD undef = .agg #[.int .i64 x0, .int .i64 x1] := Reg.slot_val (hd 1 23 (by kernel_rfl) rfl)
                  go_simp
                  refine (side_edge x0 x1 w5).mono ?_
                  rintro en w6 ⟨rfl, hB6⟩
                  rw [hp, hq]
                  exact hK _ _ rfl (HD.out.below hB6)
              · refine Reg8.Obl.early (by kernel_rfl) (by kernel_rfl) (by kernel_rfl) ?_
                rintro a' w5 hC hx hd K hK
                have HC := Lib.hid hC
                clear hC
                have t3 : a'.tmps[3]?.getD undef = .map (some B) := Reg.slot_val (hx 3 (by kernel_rfl))
                go_simp
                exact hK _ _ rfl trivial HC.out (Below.refl _ _)
              · refine Reg8.Obl.early (by kernel_rfl) (by kernel_rfl) (by kernel_rfl) ?_
                rintro a' w5 hC hx hd K hK
                have HC := Lib.hid hC
                clear hC
                have t7 : a'.tmps[7]?.getD undef = .pointer (some ⟨wr.heap.size, 0, none⟩) := Reg.slot_val (hx 7 (by kernel_rfl))
                have r5 := owns_up BX.out HC.out
                have y0 := cell0_of r5
                have y1 := cell1_of r5
                clear r5
                go_simp
                exact hK _ _ rfl trivial HC.out (Below.refl _ _)
              · refine Reg8.Obl.early (by kernel_rfl) (by kernel_rfl) (by kernel_rfl) ?_
                rintro a' w5 hC hx hd K hK
                have HC := Lib.hid hC
                clear hC
                have t26 : a'.tmps[26]?.getD undef = .agg #[.int .i64 x0, .int .i64 x1] := Reg.slot_val (hd 4 26 (by kernel_rfl) rfl).1
                go_simp
                refine (side_edge x0 x1 w5).mono ?_
                rintro en w6 ⟨rfl, hB6⟩
                rw [hp, hq]
                exact hK _ _ rfl trivial (HC.out.trans (hB6.mono HC.out.size)) hB6
              · refine Reg8.Obl.early (by kernel_rfl) (by kernel_rfl) (by kernel_rfl) ?_
                rintro a' w5 hC hx hd K hK
                have HC := Lib.hid hC
                clear hC
                have t25 : a'.tmps[25]?.getD undef = .map (some B) := Reg.slot_val (hd 3 25 (by kernel_rfl) rfl).1
                have t27 : a'.tmps[27]?.getD undef = .agg #[.int .i64 p, .int .i64 q] := Reg.slot_val (hd 5 27 (by kernel_rfl) rfl).1
                obtain ⟨v5, zs, hrun, hat, hoi, hzl, hback⟩ := (groups_below GR.out HC.out).at edgeKeyed Tryz.underlying180 (by kernel_rfl) (by unfold maxLen; omega) (keyOf_edge wp wq)
                obtain rfl := group_is HF.out wp wq hat hoi
                have LK : Hid (Lk B (3 * k + 0) D (p, q) (grp (preI ts k 0) (p, q)) v5 w5) := Lib.hid ⟨hoi, hzl, hback⟩
                clear hat hoi hzl hback
                go_simp
                exact hK _ _ trivial LK.out HC.out (Below.refl _ _)
              · refine Reg8.Obl.early (by kernel_rfl) (by kernel_rfl) (by kernel_rfl) ?_
                rintro a' w5 hC hx hd K hK
                have HC := Lib.hid hC
                clear hC
                have t4 : a'.tmps[4]?.getD undef = .int .i64 (k : Int) := Reg.slot_val (hx 4 (by kernel_rfl))
                go_simp
                exact hK _ _ rfl trivial HC.out (Below.refl _ _)
              · refine Reg8.Obl.early (by kernel_rfl) (by kernel_rfl) (by kernel_rfl) ?_
                rintro a' w5 hC hx hd K hK
                have HC := Lib.hid hC
                clear hC
                have t29 : a'.tmps[29]?.getD undef = .int .i64 (k : Int) := Reg.slot_val (hd 7 29 (by kernel_rfl) rfl).1
                have e0 := cell_one_new w5 (.int .i64 (k : Int)) 2 0 _ rfl
                have E0 := Lib.hid e0
                clear e0
                go_simp
                exact hK _ _ trivial ⟨_, rfl, by first | (simp; done) | exact E0.out⟩ (HC.out.alloc HC.out.size _) ((Below.refl _ _).alloc (Nat.le_refl _) _)
              · refine Reg8.Obl.turn (by kernel_rfl) (by kernel_rfl) ?_
                rintro a' w5 hC hx hd K hK
                have hLK := (hd 6 28 (by kernel_rfl) rfl).2
                obtain ⟨g, t30, hg30⟩ := (hd 8 30 (by kernel_rfl) rfl).2
                have hBw5 : wr.heap.size ≤ w5.heap.size := Nat.le_trans (by simp) hC.size
                refine wp_append_own_at w5 _ _ 61 rfl (B + 1) 2 i0 (.int .i64 0) 1 8 Tryz.underlying61 hi hz0 hz1 hz2 rfl (by decide) _ _ _ rfl hLK.1.1 ⟨g, 0, none⟩ 1 1 [.int .i64 (k : Int)] t30 rfl (fun j u hj => ?_) (fun u hu => by simp at hu; subst hu; rfl) (by have := hLK.2.1; unfold maxLen; omega) (by have := hLK.2.1; omega) (by omega) ?_
                · match j, hj with
                  | 0, hj => simp at hj; subst hj; first | (simp [Addr.add]; done) | (simp [Addr.add]; exact hg30)
                  | j + 1, hj => simp at hj
                · intro v6 w6 ho hgr hloc
                  exact hK _ _ trivial ⟨_, w5, hLK, hC, hgr, hLK.1.appended ho wk, hloc.imp id (fun h => ⟨_, h, Nat.le_refl _⟩)⟩
              · refine Reg8.Obl.store (by kernel_rfl) ?_
                rintro a' w5 u5 hu hD hx hd K hK
                have t22 : a'.tmps[22]?.getD undef = .map (some B) := Reg.slot_val (hd 0 22 rfl)
                have t24 : a'.tmps[24]?.getD undef = .agg #[.int .i64 p, .int .i64 q] := Reg.slot_val (hd 2 24 rfl)
                have t31 : a'.tmps[31]?.getD undef = u5 := Reg.slot_val (hu 31 rfl)
                have HCR5 := Lib.hid (hD.row (owns_up HCR.out HBX.out) (by decide))
                obtain ⟨v5, wl, hLK, hBl, hgr, hoi, hloc⟩ := hD
                obtain ⟨w6, hrun, hG6, hg6⟩ := hLK.2.2 w5 u5 _ hgr hoi (by have := hLK.2.1; simp; omega) hloc
                rw [← hoi.datum_pos (by simp)] at *
                have HT6 : Hid (w6.ownsGroups Tryz.prog 185 (B + 1) 2 .i64 B (3 * k + (0 + 1)) (D.put (kE (p, q)) (rowDatum .i64 u5 (grp (preI ts k 0) (p, q) ++ [(k : Int)]))) ∧ w6.ownsRow cb 140 3 (.slice (some ⟨cb, 0, none⟩) tl tl) tl (flatV ts tl) ∧ Below w.heap.size w w6) := Lib.hid
                  ⟨hG6, HCR5.out.kept hg6 (.inr (by simp [Value.ownBlock]; exact hne)), Below.groups ((HB1.out.trans (HBX.out.mono HB1.out.size)).trans (hBl.mono (HB1.out.trans (HBX.out.mono HB1.out.size)).size)) hLK.1 hgr hg6 ((HB1.out.trans (HBX.out.mono HB1.out.size)).trans (hBl.mono (HB1.out.trans (HBX.out.mono HB1.out.size)).size)).size (by omega) hBle⟩
                clear hG6 hg6 hgr hoi hloc hLK hBl
                go_simp
                exact hK _ HT6.out
            · rintro f w6 ⟨hG6, hC6, hB6⟩ hd
              have HG6 := Lib.hid hG6
              have HC6 := Lib.hid hC6
              have HB6 := Lib.hid hB6
              have HF6 : Hid (GroupsOf (D.put (kE (p, q)) (.slice (lits .i64 (grp (preI ts k 0) (p, q) ++ [(k : Int)])) [])) (preI ts k (0 + 1))) := Lib.hid (by
                rw [preI_step (j := 0) (by decide), HS.out]; exact HF.out.put wp wq)
              clear hG6 hC6 hB6 hd hix hp hq
              simp only [Reg.mixL]
              go_wp2
              go_roundw
              case rel => exact ⟨0 + 1, by omega, by go_num, _, HG6.out, HF6.out, HC6.out, HB6.out⟩
              case measure => simp [intOf]
          · have hs : (triE (ts.getD k [])).getD 1 (0, 0) = (min x1 x2, max x1 x2) := by
              show eKey ((ts.getD k []).getD 1 0) ((ts.getD k []).getD 2 0) = _
              rw [X1.out, X2.out]; rfl
            have hix : ∀ w, (Instr.index 211 (.agg #[.int .i64 x0, .int .i64 x1, .int .i64 x1, .int .i64 x2, .int .i64 x2, .int .i64 x0]) (.int .i64 1)).run Tryz.prog w = .ok (.agg #[.int .i64 x1, .int .i64 x2]) w := side_ix x0 x1 x1 x2 x2 x0 1 (by decide)
            obtain ⟨p, hp⟩ : ∃ p, min x1 x2 = p := ⟨_, rfl⟩
            obtain ⟨q, hq⟩ : ∃ q, max x1 x2 = q := ⟨_, rfl⟩
            rw [hp, hq] at hs
            have wp : (Lit.int .i64 p).wf = true := WalkArith.wf_i64 (by omega)
            have wq : (Lit.int .i64 q).wf = true := WalkArith.wf_i64 (by omega)
            have HS := Lib.hid hs
            have HPQ := Lib.hid (And.intro hp hq)
            clear hs
            have HBX : Hid (Below wr.heap.size wr (wr.alloc (.cells #[.int .i64 x1, .int .i64 x2] 210))) := Lib.hid ((Below.refl _ _).alloc (Nat.le_refl _) _)
            have BX : Hid ((wr.alloc (.cells #[.int .i64 x1, .int .i64 x2] 210)).ownsRow wr.heap.size 210 2 (.slice (some ⟨wr.heap.size, 0, none⟩) 1 1) 1 [.int .i64 x1, .int .i64 x2]) := Lib.hid (by
              have := World.ownsRow_lit (base := wr.heap.size) (e := 210) (size := 2) wr #[.int .i64 x1, .int .i64 x2] 1 (Nat.le_refl _) (by decide) rfl
              simpa using this)
            have GR := Lib.hid (groups_below HO.out HBX.out)
            have hBw : B < wr.heap.size := by
              obtain ⟨es, clock, hb, _⟩ := HO.out
              exact (Array.getElem?_eq_some_iff.1 hb).1
            clear hp hq
            go_wp2_with fail
            have hp := HPQ.out.1
            have hq := HPQ.out.2
            refine Reg8.wp_region_mix (m := 9) (z := 10) (C := fun w' => Below (wr.alloc (.cells #[.int .i64 x1, .int .i64 x2] 210)).heap.size (wr.alloc (.cells #[.int .i64 x1, .int .i64 x2] 210)) w') (D := fun u w' => Ap (wr.alloc (.cells #[.int .i64 x1, .int .i64 x2] 210)) B (3 * k + 1) D (p, q) (grp (preI ts k 1) (p, q)) (k : Int) u w')
              (T := fun w' => w'.ownsGroups Tryz.prog 185 (B + 1) 2 .i64 B (3 * k + (1 + 1)) (D.put (kE (p, q)) (.slice (lits .i64 (grp (preI ts k 1) (p, q) ++ [(k : Int)])) [])) ∧ w'.ownsRow cb 140 3 (.slice (some ⟨cb, 0, none⟩) tl tl) tl (flatV ts tl) ∧ Below w.heap.size w w')
              (G := fun w1 w2 => Below w1.heap.size w1 w2)
              (Rv := fun i v => match i with | 0 => v = .map (some B) | 1 => v = .agg #[.int .i64 x1, .int .i64 x2] | 2 => v = .agg #[.int .i64 p, .int .i64 q] | 3 => v = .map (some B) | 4 => v = .agg #[.int .i64 x1, .int .i64 x2] | 5 => v = .agg #[.int .i64 p, .int .i64 q] | 7 => v = .int .i64 (k : Int) | _ => True)
              (Rw := fun i v w' => match i with | 6 => Lk B (3 * k + 1) D (p, q) (grp (preI ts k 1) (p, q)) v w' | 8 => ∃ g, v = .slice (some ⟨g, 0, none⟩) 1 1 ∧ w'.cell? ⟨g, 0, none⟩ = some (.int .i64 (k : Int)) | _ => True) [false, false, false, false, false, false, false, false, false, false, false, false, false, false, false, false, false, false, false, false, false, false, true, true, true, true, true, true, true, true, true, true, false, false, false]
              (by kernel_rfl) (by kernel_rfl) (by kernel_rfl) ?_ (below_drewN (Below.refl _ _) 1) ?_ ?_
            · intro j v w1 w2 hC hG hR
              match j with
              | 0 => trivial
              | 1 => trivial
              | 2 => trivial
              | 3 => trivial
              | 4 => trivial
              | 5 => trivial
              | 6 => exact hR.below hG
              | 7 => trivial
              | 8 => obtain ⟨g, e, hg⟩ := hR; exact ⟨g, e, cell_below hG hg⟩
              | _ + 9 => trivial
            · refine ⟨?_, ?_, ?_, ?_, ?_, ?_, ?_, ?_, ?_, ?_, ?_, trivial⟩
              · refine Reg8.Obl.any (by kernel_rfl) (by kernel_rfl) ?_ ?_
                · rintro a' w5 hC hx hd K hK
                  have HC := Lib.hid hC
                  clear hC
                  have t3 : a'.tmps[3]?.getD undef = .map (some B) := Reg.slot_val (hx 3 (by kernel_rfl))
                  go_simp
                  exact hK _ _ rfl trivial HC.out (Below.refl _ _)
                · rintro a' w5 u5 hD hx hd K hK
                  have HD := Lib.hid hD
                  clear hD
                  have t3 : a'.tmps[3]?.getD undef = .map (some B) := Reg.slot_val (hx 3 (by kernel_rfl))
                  go_simp
                  exact hK _ _ rfl HD.out
              · refine Reg8.Obl.any (by kernel_rfl) (by kernel_rfl) ?_ ?_
                · rintro a' w5 hC hx hd K hK
                  have HC := Lib.hid hC
                  clear hC
                  have t7 : a'.tmps[7]?.getD undef = .pointer (some ⟨wr.heap.size, 0, none⟩) := Reg.slot_val (hx 7 (by kernel_rfl))
                  have r5 := owns_up BX.out HC.out
                  have y0 := cell0_of r5
                  have y1 := cell1_of r5
                  clear r5
                  go_simp
                  exact hK _ _ rfl trivial HC.out (Below.refl _ _)
                · rintro a' w5 u5 hD hx hd K hK
                  have HD := Lib.hid hD
                  clear hD
                  have t7 : a'.tmps[7]?.getD undef = .pointer (some ⟨wr.heap.size, 0, none⟩) := Reg.slot_val (hx 7 (by kernel_rfl))
                  have r5 := HD.out.row BX.out (by decide)
                  have y0 := cell0_of r5
                  have y1 := cell1_of r5
                  clear r5
                  go_simp
                  exact hK _ _ rfl HD.out
              · refine Reg8.Obl.any (by kernel_rfl) (by kernel_rfl) ?_ ?_
                · rintro a' w5 hC hx hd K hK
                  have HC := Lib.hid hC
                  clear hC
                  have t23 : a'.tmps[23]?.getD undef = .agg #[.int .i64 x1, .int .i64 x2] := Reg.slot_val (hd 1 23 (by kernel_rfl) rfl)
                  go_simp
                  refine (side_edge x1 x2 w5).mono ?_
                  rintro en w6 ⟨rfl, hB6⟩
                  rw [hp, hq]
                  exact hK _ _ rfl trivial (HC.out.trans (hB6.mono HC.out.size)) hB6
                · rintro a' w5 u5 hD hx hd K hK
                  have HD := Lib.hid hD
                  clear hD
                  have t23 : a'.tmps[23]?.getD undef = .agg #[.int .i64 x1, .int .i64 x2] := Reg.slot_val (hd 1 23 (by kernel_rfl) rfl)
                  go_simp
                  refine (side_edge x1 x2 w5).mono ?_
                  rintro en w6 ⟨rfl, hB6⟩
                  rw [hp, hq]
                  exact hK _ _ rfl (HD.out.below hB6)
              · refine Reg8.Obl.early (by kernel_rfl) (by kernel_rfl) (by kernel_rfl) ?_
                rintro a' w5 hC hx hd K hK
                have HC := Lib.hid hC
                clear hC
                have t3 : a'.tmps[3]?.getD undef = .map (some B) := Reg.slot_val (hx 3 (by kernel_rfl))
                go_simp
                exact hK _ _ rfl trivial HC.out (Below.refl _ _)
              · refine Reg8.Obl.early (by kernel_rfl) (by kernel_rfl) (by kernel_rfl) ?_
                rintro a' w5 hC hx hd K hK
                have HC := Lib.hid hC
                clear hC
                have t7 : a'.tmps[7]?.getD undef = .pointer (some ⟨wr.heap.size, 0, none⟩) := Reg.slot_val (hx 7 (by kernel_rfl))
                have r5 := owns_up BX.out HC.out
                have y0 := cell0_of r5
                have y1 := cell1_of r5
                clear r5
                go_simp
                exact hK _ _ rfl trivial HC.out (Below.refl _ _)
              · refine Reg8.Obl.early (by kernel_rfl) (by kernel_rfl) (by kernel_rfl) ?_
                rintro a' w5 hC hx hd K hK
                have HC := Lib.hid hC
                clear hC
                have t26 : a'.tmps[26]?.getD undef = .agg #[.int .i64 x1, .int .i64 x2] := Reg.slot_val (hd 4 26 (by kernel_rfl) rfl).1
                go_simp
                refine (side_edge x1 x2 w5).mono ?_
                rintro en w6 ⟨rfl, hB6⟩
                rw [hp, hq]
                exact hK _ _ rfl trivial (HC.out.trans (hB6.mono HC.out.size)) hB6
              · refine Reg8.Obl.early (by kernel_rfl) (by kernel_rfl) (by kernel_rfl) ?_
                rintro a' w5 hC hx hd K hK
                have HC := Lib.hid hC
                clear hC
                have t25 : a'.tmps[25]?.getD undef = .map (some B) := Reg.slot_val (hd 3 25 (by kernel_rfl) rfl).1
                have t27 : a'.tmps[27]?.getD undef = .agg #[.int .i64 p, .int .i64 q] := Reg.slot_val (hd 5 27 (by kernel_rfl) rfl).1
                obtain ⟨v5, zs, hrun, hat, hoi, hzl, hback⟩ := (groups_below GR.out HC.out).at edgeKeyed Tryz.underlying180 (by kernel_rfl) (by unfold maxLen; omega) (keyOf_edge wp wq)
                obtain rfl := group_is HF.out wp wq hat hoi
                have LK : Hid (Lk B (3 * k + 1) D (p, q) (grp (preI ts k 1) (p, q)) v5 w5) := Lib.hid ⟨hoi, hzl, hback⟩
                clear hat hoi hzl hback
                go_simp
                exact hK _ _ trivial LK.out HC.out (Below.refl _ _)
              · refine Reg8.Obl.early (by kernel_rfl) (by kernel_rfl) (by kernel_rfl) ?_
                rintro a' w5 hC hx hd K hK
                have HC := Lib.hid hC
                clear hC
                have t4 : a'.tmps[4]?.getD undef = .int .i64 (k : Int) := Reg.slot_val (hx 4 (by kernel_rfl))
                go_simp
                exact hK _ _ rfl trivial HC.out (Below.refl _ _)
              · refine Reg8.Obl.early (by kernel_rfl) (by kernel_rfl) (by kernel_rfl) ?_
                rintro a' w5 hC hx hd K hK
                have HC := Lib.hid hC
                clear hC
                have t29 : a'.tmps[29]?.getD undef = .int .i64 (k : Int) := Reg.slot_val (hd 7 29 (by kernel_rfl) rfl).1
                have e0 := cell_one_new w5 (.int .i64 (k : Int)) 2 0 _ rfl
                have E0 := Lib.hid e0
                clear e0
                go_simp
                exact hK _ _ trivial ⟨_, rfl, by first | (simp; done) | exact E0.out⟩ (HC.out.alloc HC.out.size _) ((Below.refl _ _).alloc (Nat.le_refl _) _)
              · refine Reg8.Obl.turn (by kernel_rfl) (by kernel_rfl) ?_
                rintro a' w5 hC hx hd K hK
                have hLK := (hd 6 28 (by kernel_rfl) rfl).2
                obtain ⟨g, t30, hg30⟩ := (hd 8 30 (by kernel_rfl) rfl).2
                have hBw5 : wr.heap.size ≤ w5.heap.size := Nat.le_trans (by simp) hC.size
                refine wp_append_own_at w5 _ _ 61 rfl (B + 1) 2 i0 (.int .i64 0) 1 8 Tryz.underlying61 hi hz0 hz1 hz2 rfl (by decide) _ _ _ rfl hLK.1.1 ⟨g, 0, none⟩ 1 1 [.int .i64 (k : Int)] t30 rfl (fun j u hj => ?_) (fun u hu => by simp at hu; subst hu; rfl) (by have := hLK.2.1; unfold maxLen; omega) (by have := hLK.2.1; omega) (by omega) ?_
                · match j, hj with
                  | 0, hj => simp at hj; subst hj; first | (simp [Addr.add]; done) | (simp [Addr.add]; exact hg30)
                  | j + 1, hj => simp at hj
                · intro v6 w6 ho hgr hloc
                  exact hK _ _ trivial ⟨_, w5, hLK, hC, hgr, hLK.1.appended ho wk, hloc.imp id (fun h => ⟨_, h, Nat.le_refl _⟩)⟩
              · refine Reg8.Obl.store (by kernel_rfl) ?_
                rintro a' w5 u5 hu hD hx hd K hK
                have t22 : a'.tmps[22]?.getD undef = .map (some B) := Reg.slot_val (hd 0 22 rfl)
                have t24 : a'.tmps[24]?.getD undef = .agg #[.int .i64 p, .int .i64 q] := Reg.slot_val (hd 2 24 rfl)
                have t31 : a'.tmps[31]?.getD undef = u5 := Reg.slot_val (hu 31 rfl)
                have HCR5 := Lib.hid (hD.row (owns_up HCR.out HBX.out) (by decide))
                obtain ⟨v5, wl, hLK, hBl, hgr, hoi, hloc⟩ := hD
                obtain ⟨w6, hrun, hG6, hg6⟩ := hLK.2.2 w5 u5 _ hgr hoi (by have := hLK.2.1; simp; omega) hloc
                rw [← hoi.datum_pos (by simp)] at *
                have HT6 : Hid (w6.ownsGroups Tryz.prog 185 (B + 1) 2 .i64 B (3 * k + (1 + 1)) (D.put (kE (p, q)) (rowDatum .i64 u5 (grp (preI ts k 1) (p, q) ++ [(k : Int)]))) ∧ w6.ownsRow cb 140 3 (.slice (some ⟨cb, 0, none⟩) tl tl) tl (flatV ts tl) ∧ Below w.heap.size w w6) := Lib.hid
                  ⟨hG6, HCR5.out.kept hg6 (.inr (by simp [Value.ownBlock]; exact hne)), Below.groups ((HB1.out.trans (HBX.out.mono HB1.out.size)).trans (hBl.mono (HB1.out.trans (HBX.out.mono HB1.out.size)).size)) hLK.1 hgr hg6 ((HB1.out.trans (HBX.out.mono HB1.out.size)).trans (hBl.mono (HB1.out.trans (HBX.out.mono HB1.out.size)).size)).size (by omega) hBle⟩
                clear hG6 hg6 hgr hoi hloc hLK hBl
                go_simp
                exact hK _ HT6.out
            · rintro f w6 ⟨hG6, hC6, hB6⟩ hd
              have HG6 := Lib.hid hG6
              have HC6 := Lib.hid hC6
              have HB6 := Lib.hid hB6
              have HF6 : Hid (GroupsOf (D.put (kE (p, q)) (.slice (lits .i64 (grp (preI ts k 1) (p, q) ++ [(k : Int)])) [])) (preI ts k (1 + 1))) := Lib.hid (by
                rw [preI_step (j := 1) (by decide), HS.out]; exact HF.out.put wp wq)
              clear hG6 hC6 hB6 hd hix hp hq
              simp only [Reg.mixL]
              go_wp2
              go_roundw
              case rel => exact ⟨1 + 1, by omega, by go_num, _, HG6.out, HF6.out, HC6.out, HB6.out⟩
              case measure => simp [intOf]
          · have hs : (triE (ts.getD k [])).getD 2 (0, 0) = (min x2 x0, max x2 x0) := by
              show eKey ((ts.getD k []).getD 2 0) ((ts.getD k []).getD 0 0) = _
              rw [X2.out, X0.out]; rfl
            have hix : ∀ w, (Instr.index 211 (.agg #[.int .i64 x0, .int .i64 x1, .int .i64 x1, .int .i64 x2, .int .i64 x2, .int .i64 x0]) (.int .i64 2)).run Tryz.prog w = .ok (.agg #[.int .i64 x2, .int .i64 x0]) w := side_ix x0 x1 x1 x2 x2 x0 2 (by decide)
            obtain ⟨p, hp⟩ : ∃ p, min x2 x0 = p := ⟨_, rfl⟩
            obtain ⟨q, hq⟩ : ∃ q, max x2 x0 = q := ⟨_, rfl⟩
            rw [hp, hq] at hs
            have wp : (Lit.int .i64 p).wf = true := WalkArith.wf_i64 (by omega)
            have wq : (Lit.int .i64 q).wf = true := WalkArith.wf_i64 (by omega)
            have HS := Lib.hid hs
            have HPQ := Lib.hid (And.intro hp hq)
            clear hs
            have HBX : Hid (Below wr.heap.size wr (wr.alloc (.cells #[.int .i64 x2, .int .i64 x0] 210))) := Lib.hid ((Below.refl _ _).alloc (Nat.le_refl _) _)
            have BX : Hid ((wr.alloc (.cells #[.int .i64 x2, .int .i64 x0] 210)).ownsRow wr.heap.size 210 2 (.slice (some ⟨wr.heap.size, 0, none⟩) 1 1) 1 [.int .i64 x2, .int .i64 x0]) := Lib.hid (by
              have := World.ownsRow_lit (base := wr.heap.size) (e := 210) (size := 2) wr #[.int .i64 x2, .int .i64 x0] 1 (Nat.le_refl _) (by decide) rfl
              simpa using this)
            have GR := Lib.hid (groups_below HO.out HBX.out)
            have hBw : B < wr.heap.size := by
              obtain ⟨es, clock, hb, _⟩ := HO.out
              exact (Array.getElem?_eq_some_iff.1 hb).1
            clear hp hq
            go_wp2_with fail
            have hp := HPQ.out.1
            have hq := HPQ.out.2
            refine Reg8.wp_region_mix (m := 9) (z := 10) (C := fun w' => Below (wr.alloc (.cells #[.int .i64 x2, .int .i64 x0] 210)).heap.size (wr.alloc (.cells #[.int .i64 x2, .int .i64 x0] 210)) w') (D := fun u w' => Ap (wr.alloc (.cells #[.int .i64 x2, .int .i64 x0] 210)) B (3 * k + 2) D (p, q) (grp (preI ts k 2) (p, q)) (k : Int) u w')
              (T := fun w' => w'.ownsGroups Tryz.prog 185 (B + 1) 2 .i64 B (3 * k + (2 + 1)) (D.put (kE (p, q)) (.slice (lits .i64 (grp (preI ts k 2) (p, q) ++ [(k : Int)])) [])) ∧ w'.ownsRow cb 140 3 (.slice (some ⟨cb, 0, none⟩) tl tl) tl (flatV ts tl) ∧ Below w.heap.size w w')
              (G := fun w1 w2 => Below w1.heap.size w1 w2)
              (Rv := fun i v => match i with | 0 => v = .map (some B) | 1 => v = .agg #[.int .i64 x2, .int .i64 x0] | 2 => v = .agg #[.int .i64 p, .int .i64 q] | 3 => v = .map (some B) | 4 => v = .agg #[.int .i64 x2, .int .i64 x0] | 5 => v = .agg #[.int .i64 p, .int .i64 q] | 7 => v = .int .i64 (k : Int) | _ => True)
              (Rw := fun i v w' => match i with | 6 => Lk B (3 * k + 2) D (p, q) (grp (preI ts k 2) (p, q)) v w' | 8 => ∃ g, v = .slice (some ⟨g, 0, none⟩) 1 1 ∧ w'.cell? ⟨g, 0, none⟩ = some (.int .i64 (k : Int)) | _ => True) [false, false, false, false, false, false, false, false, false, false, false, false, false, false, false, false, false, false, false, false, false, false, true, true, true, true, true, true, true, true, true, true, false, false, false]
              (by kernel_rfl) (by kernel_rfl) (by kernel_rfl) ?_ (below_drewN (Below.refl _ _) 1) ?_ ?_
            · intro j v w1 w2 hC hG hR
              match j with
              | 0 => trivial
              | 1 => trivial
              | 2 => trivial
              | 3 => trivial
              | 4 => trivial
              | 5 => trivial
              | 6 => exact hR.below hG
              | 7 => trivial
              | 8 => obtain ⟨g, e, hg⟩ := hR; exact ⟨g, e, cell_below hG hg⟩
              | _ + 9 => trivial
            · refine ⟨?_, ?_, ?_, ?_, ?_, ?_, ?_, ?_, ?_, ?_, ?_, trivial⟩
              · refine Reg8.Obl.any (by kernel_rfl) (by kernel_rfl) ?_ ?_
                · rintro a' w5 hC hx hd K hK
                  have HC := Lib.hid hC
                  clear hC
                  have t3 : a'.tmps[3]?.getD undef = .map (some B) := Reg.slot_val (hx 3 (by kernel_rfl))
                  go_simp
                  exact hK _ _ rfl trivial HC.out (Below.refl _ _)
                · rintro a' w5 u5 hD hx hd K hK
                  have HD := Lib.hid hD
                  clear hD
                  have t3 : a'.tmps[3]?.getD undef = .map (some B) := Reg.slot_val (hx 3 (by kernel_rfl))
                  go_simp
                  exact hK _ _ rfl HD.out
              · refine Reg8.Obl.any (by kernel_rfl) (by kernel_rfl) ?_ ?_
                · rintro a' w5 hC hx hd K hK
                  have HC := Lib.hid hC
                  clear hC
                  have t7 : a'.tmps[7]?.getD undef = .pointer (some ⟨wr.heap.size, 0, none⟩) := Reg.slot_val (hx 7 (by kernel_rfl))
                  have r5 := owns_up BX.out HC.out
                  have y0 := cell0_of r5
                  have y1 := cell1_of r5
                  clear r5
                  go_simp
                  exact hK _ _ rfl trivial HC.out (Below.refl _ _)
                · rintro a' w5 u5 hD hx hd K hK
                  have HD := Lib.hid hD
                  clear hD
                  have t7 : a'.tmps[7]?.getD undef = .pointer (some ⟨wr.heap.size, 0, none⟩) := Reg.slot_val (hx 7 (by kernel_rfl))
                  have r5 := HD.out.row BX.out (by decide)
                  have y0 := cell0_of r5
                  have y1 := cell1_of r5
                  clear r5
                  go_simp
                  exact hK _ _ rfl HD.out
              · refine Reg8.Obl.any (by kernel_rfl) (by kernel_rfl) ?_ ?_
                · rintro a' w5 hC hx hd K hK
                  have HC := Lib.hid hC
                  clear hC
                  have t23 : a'.tmps[23]?.getD undef = .agg #[.int .i64 x2, .int .i64 x0] := Reg.slot_val (hd 1 23 (by kernel_rfl) rfl)
                  go_simp
                  refine (side_edge x2 x0 w5).mono ?_
                  rintro en w6 ⟨rfl, hB6⟩
                  rw [hp, hq]
                  exact hK _ _ rfl trivial (HC.out.trans (hB6.mono HC.out.size)) hB6
                · rintro a' w5 u5 hD hx hd K hK
                  have HD := Lib.hid hD
                  clear hD
                  have t23 : a'.tmps[23]?.getD undef = .agg #[.int .i64 x2, .int .i64 x0] := Reg.slot_val (hd 1 23 (by kernel_rfl) rfl)
                  go_simp
                  refine (side_edge x2 x0 w5).mono ?_
                  rintro en w6 ⟨rfl, hB6⟩
                  rw [hp, hq]
                  exact hK _ _ rfl (HD.out.below hB6)
              · refine Reg8.Obl.early (by kernel_rfl) (by kernel_rfl) (by kernel_rfl) ?_
                rintro a' w5 hC hx hd K hK
                have HC := Lib.hid hC
                clear hC
                have t3 : a'.tmps[3]?.getD undef = .map (some B) := Reg.slot_val (hx 3 (by kernel_rfl))
                go_simp
                exact hK _ _ rfl trivial HC.out (Below.refl _ _)
              · refine Reg8.Obl.early (by kernel_rfl) (by kernel_rfl) (by kernel_rfl) ?_
                rintro a' w5 hC hx hd K hK
                have HC := Lib.hid hC
                clear hC
                have t7 : a'.tmps[7]?.getD undef = .pointer (some ⟨wr.heap.size, 0, none⟩) := Reg.slot_val (hx 7 (by kernel_rfl))
                have r5 := owns_up BX.out HC.out
                have y0 := cell0_of r5
                have y1 := cell1_of r5
                clear r5
                go_simp
                exact hK _ _ rfl trivial HC.out (Below.refl _ _)
              · refine Reg8.Obl.early (by kernel_rfl) (by kernel_rfl) (by kernel_rfl) ?_
                rintro a' w5 hC hx hd K hK
                have HC := Lib.hid hC
                clear hC
                have t26 : a'.tmps[26]?.getD undef = .agg #[.int .i64 x2, .int .i64 x0] := Reg.slot_val (hd 4 26 (by kernel_rfl) rfl).1
                go_simp
                refine (side_edge x2 x0 w5).mono ?_
                rintro en w6 ⟨rfl, hB6⟩
                rw [hp, hq]
                exact hK _ _ rfl trivial (HC.out.trans (hB6.mono HC.out.size)) hB6
              · refine Reg8.Obl.early (by kernel_rfl) (by kernel_rfl) (by kernel_rfl) ?_
                rintro a' w5 hC hx hd K hK
                have HC := Lib.hid hC
                clear hC
                have t25 : a'.tmps[25]?.getD undef = .map (some B) := Reg.slot_val (hd 3 25 (by kernel_rfl) rfl).1
                have t27 : a'.tmps[27]?.getD undef = .agg #[.int .i64 p, .int .i64 q] := Reg.slot_val (hd 5 27 (by kernel_rfl) rfl).1
                obtain ⟨v5, zs, hrun, hat, hoi, hzl, hback⟩ := (groups_below GR.out HC.out).at edgeKeyed Tryz.underlying180 (by kernel_rfl) (by unfold maxLen; omega) (keyOf_edge wp wq)
                obtain rfl := group_is HF.out wp wq hat hoi
                have LK : Hid (Lk B (3 * k + 2) D (p, q) (grp (preI ts k 2) (p, q)) v5 w5) := Lib.hid ⟨hoi, hzl, hback⟩
                clear hat hoi hzl hback
                go_simp
                exact hK _ _ trivial LK.out HC.out (Below.refl _ _)
              · refine Reg8.Obl.early (by kernel_rfl) (by kernel_rfl) (by kernel_rfl) ?_
                rintro a' w5 hC hx hd K hK
                have HC := Lib.hid hC
                clear hC
                have t4 : a'.tmps[4]?.getD undef = .int .i64 (k : Int) := Reg.slot_val (hx 4 (by kernel_rfl))
                go_simp
                exact hK _ _ rfl trivial HC.out (Below.refl _ _)
              · refine Reg8.Obl.early (by kernel_rfl) (by kernel_rfl) (by kernel_rfl) ?_
                rintro a' w5 hC hx hd K hK
                have HC := Lib.hid hC
                clear hC
                have t29 : a'.tmps[29]?.getD undef = .int .i64 (k : Int) := Reg.slot_val (hd 7 29 (by kernel_rfl) rfl).1
                have e0 := cell_one_new w5 (.int .i64 (k : Int)) 2 0 _ rfl
                have E0 := Lib.hid e0
                clear e0
                go_simp
                exact hK _ _ trivial ⟨_, rfl, by first | (simp; done) | exact E0.out⟩ (HC.out.alloc HC.out.size _) ((Below.refl _ _).alloc (Nat.le_refl _) _)
              · refine Reg8.Obl.turn (by kernel_rfl) (by kernel_rfl) ?_
                rintro a' w5 hC hx hd K hK
                have hLK := (hd 6 28 (by kernel_rfl) rfl).2
                obtain ⟨g, t30, hg30⟩ := (hd 8 30 (by kernel_rfl) rfl).2
                have hBw5 : wr.heap.size ≤ w5.heap.size := Nat.le_trans (by simp) hC.size
                refine wp_append_own_at w5 _ _ 61 rfl (B + 1) 2 i0 (.int .i64 0) 1 8 Tryz.underlying61 hi hz0 hz1 hz2 rfl (by decide) _ _ _ rfl hLK.1.1 ⟨g, 0, none⟩ 1 1 [.int .i64 (k : Int)] t30 rfl (fun j u hj => ?_) (fun u hu => by simp at hu; subst hu; rfl) (by have := hLK.2.1; unfold maxLen; omega) (by have := hLK.2.1; omega) (by omega) ?_
                · match j, hj with
                  | 0, hj => simp at hj; subst hj; first | (simp [Addr.add]; done) | (simp [Addr.add]; exact hg30)
                  | j + 1, hj => simp at hj
                · intro v6 w6 ho hgr hloc
                  exact hK _ _ trivial ⟨_, w5, hLK, hC, hgr, hLK.1.appended ho wk, hloc.imp id (fun h => ⟨_, h, Nat.le_refl _⟩)⟩
              · refine Reg8.Obl.store (by kernel_rfl) ?_
                rintro a' w5 u5 hu hD hx hd K hK
                have t22 : a'.tmps[22]?.getD undef = .map (some B) := Reg.slot_val (hd 0 22 rfl)
                have t24 : a'.tmps[24]?.getD undef = .agg #[.int .i64 p, .int .i64 q] := Reg.slot_val (hd 2 24 rfl)
                have t31 : a'.tmps[31]?.getD undef = u5 := Reg.slot_val (hu 31 rfl)
                have HCR5 := Lib.hid (hD.row (owns_up HCR.out HBX.out) (by decide))
                obtain ⟨v5, wl, hLK, hBl, hgr, hoi, hloc⟩ := hD
                obtain ⟨w6, hrun, hG6, hg6⟩ := hLK.2.2 w5 u5 _ hgr hoi (by have := hLK.2.1; simp; omega) hloc
                rw [← hoi.datum_pos (by simp)] at *
                have HT6 : Hid (w6.ownsGroups Tryz.prog 185 (B + 1) 2 .i64 B (3 * k + (2 + 1)) (D.put (kE (p, q)) (rowDatum .i64 u5 (grp (preI ts k 2) (p, q) ++ [(k : Int)]))) ∧ w6.ownsRow cb 140 3 (.slice (some ⟨cb, 0, none⟩) tl tl) tl (flatV ts tl) ∧ Below w.heap.size w w6) := Lib.hid
                  ⟨hG6, HCR5.out.kept hg6 (.inr (by simp [Value.ownBlock]; exact hne)), Below.groups ((HB1.out.trans (HBX.out.mono HB1.out.size)).trans (hBl.mono (HB1.out.trans (HBX.out.mono HB1.out.size)).size)) hLK.1 hgr hg6 ((HB1.out.trans (HBX.out.mono HB1.out.size)).trans (hBl.mono (HB1.out.trans (HBX.out.mono HB1.out.size)).size)).size (by omega) hBle⟩
                clear hG6 hg6 hgr hoi hloc hLK hBl
                go_simp
                exact hK _ HT6.out
            · rintro f w6 ⟨hG6, hC6, hB6⟩ hd
              have HG6 := Lib.hid hG6
              have HC6 := Lib.hid hC6
              have HB6 := Lib.hid hB6
              have HF6 : Hid (GroupsOf (D.put (kE (p, q)) (.slice (lits .i64 (grp (preI ts k 2) (p, q) ++ [(k : Int)])) [])) (preI ts k (2 + 1))) := Lib.hid (by
                rw [preI_step (j := 2) (by decide), HS.out]; exact HF.out.put wp wq)
              clear hG6 hC6 hB6 hd hix hp hq
              simp only [Reg.mixL]
              go_wp2
              go_roundw
              case rel => exact ⟨2 + 1, by omega, by go_num, _, HG6.out, HF6.out, HC6.out, HB6.out⟩
              case measure => simp [intOf]
        · obtain rfl : j = 3 := by omega
          have hf := HF.out
          rw [preI_next] at hf
          have HF1 := Lib.hid hf
          clear hf
          go_wp2
          go_roundw
          case rel => exact ⟨k + 1, by omega, by go_num, D, HO.out, HF1.out, HCR.out, HB1.out⟩
          case measure => simp [intOf]; omega
    · obtain rfl : k = tl := by omega
      have HE := Lib.hid (And.intro hO (And.intro hF hB))
      clear hA hO hF hCR hB
      go_wp2
      go_ret
      exact ⟨B, D0, rfl, Nat.le_trans (Nat.le_of_lt_succ (by omega)) (Nat.le_refl B), HE.out.1, HE.out.2.1, HE.out.2.2⟩
end Go.Proofs.YtnbfaedopjkgpaaGreat

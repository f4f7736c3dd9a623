/-
Texts in one: what StretchesOf stands on, part 12. Conditions: those of each.
-/
import Derived.Test.YtmbekamnogbgaabKStretchesOf11

/-
How far a spring is stretched: what the program's own part returns. Conditions: the spring's places are places of the list.
-/
namespace Go.Proofs.Ytmbekamnogbgaab
open Go Fk Go.RowKit
set_option linter.unusedVariables false
set_option maxRecDepth 16000

def strC (cs : List C3) (s : SC) : Option Nat := fop .quo .f32 (longC (wayC cs s.1 s.2.1)) s.2.2.1
set_option maxHeartbeats 2000000 in
theorem impl_stretch (bb : Nat) (B : Bd) (cs : List C3) (s : SC) (x y : Nat) (w : World) (hA : At w bb B.l) (hv : IsVs w B.pa B.pl B.pc cs) (ha : inB B.pl s.1 = true) (hb : inB B.pl s.2.1 = true) (hx : FV .f32 x s.2.2.1) :
    Calls Try.prog 91 #[sv s.1 s.2.1 x y, .pointer (some ⟨bb, 0, none⟩)] w fun e w' => ∃ z, e = .returned (.float .f32 z) ∧ FV .f32 z (strC cs s) ∧ Below w.heap.size w w' := by
  have u := Try.underlying52
  have us := Try.underlying116
  have ub := Try.underlying64
  have um := Try.underlying32
  unfold strC
  generalize s.1 = a at *
  generalize s.2.1 = b at *
  generalize s.2.2.1 = l at *
  have hS : At (w.alloc (.cells #[.int .i64 a, .int .i64 b, .float .f32 x, .float .f32 y] 116)) w.heap.size [.int .i64 a, .int .i64 b, .float .f32 x, .float .f32 y] := At.new
  have hB0 : Below w.heap.size w (w.alloc (.cells #[.int .i64 a, .int .i64 b, .float .f32 x, .float .f32 y] 116)) := (Below.refl _ _).alloc (Nat.le_refl _) _
  have HC0 := Lib.hid (And.intro hS (And.intro (hA.below hB0) hB0))
  have HV := Lib.hid hv
  clear hS hB0 hA hv
  go_enter Try.func91, Try.ntmps91
  go_wp2_with fail
  generalize (w.alloc (.cells #[.int .i64 a, .int .i64 b, .float .f32 x, .float .f32 y] 116)) = W at *
  refine Reg.wp_region_mix (C := fun w' => At w' w.heap.size [.int .i64 a, .int .i64 b, .float .f32 x, .float .f32 y] ∧ At w' bb B.l ∧ Below w.heap.size w w') (G := fun _ _ => True)
    (R := fun i v _ => match i with
      | 0 => v = sv a b x y
      | 1 => v = .pointer (some ⟨bb, 0, none⟩)
      | 2 => v = .pointer (some ⟨bb, 0, none⟩)
      | 3 => v = .slice B.pa B.pl B.pc
      | 4 => ∃ s t u, v = vv s t u ∧ FV3 s t u (wayC cs a b)
      | 5 => ∃ r, v = .float .f32 r ∧ FV .f32 r (longC (wayC cs a b))
      | 6 => v = .pointer (some ⟨w.heap.size, 2, none⟩)
      | 7 => v = .float .f32 x
      | 8 => ∃ r, v = .float .f32 r ∧ FV .f32 r (fop .quo .f32 (longC (wayC cs a b)) l)
      | 9 => ∃ r, v = .float .f32 r ∧ FV .f32 r (fop .quo .f32 (longC (wayC cs a b)) l)
      | _ => True) (T := fun _ _ _ => True) [false, false, false, true, true, true, true, true, true, true, true, true, true]
    (by kernel_rfl) (by kernel_rfl) (by kernel_rfl) (fun _ _ _ _ _ _ h => h) ⟨HC0.out.1, HC0.out.2.1, below_drewN HC0.out.2.2 1⟩ ?_ ?_
  · refine ⟨Reg.Obl.mk ?_, Reg.Obl.mk ?_, Reg.Obl.mk ?_, Reg.Obl.mk ?_, Reg.Obl.mk ?_, Reg.Obl.mk ?_, Reg.Obl.mk ?_, Reg.Obl.mk ?_, Reg.Obl.mk ?_, Reg.Obl.mk ?_, trivial⟩
    · rintro av w1 hC hx' hd K hK
      have HC := Lib.hid hC
      clear hC
      have t2 : av.tmps[2]?.getD undef = .pointer (some ⟨w.heap.size, 0, none⟩) := Reg.slot_val (hx' 2 (by kernel_rfl))
      have z0 := HC.out.1 0 _ rfl
      have z1 := HC.out.1 1 _ rfl
      have z2 := HC.out.1 2 _ rfl
      have z3 := HC.out.1 3 _ rfl
      go_simp
      exact hK _ _ (fun _ => rfl) (fun h => by cases h) HC.out trivial
    · rintro av w1 hC hx' hd K hK
      have HC := Lib.hid hC
      clear hC
      have t1 : av.tmps[1]?.getD undef = .pointer (some ⟨bb, 0, none⟩) := Reg.slot_val (hx' 1 (by kernel_rfl))
      go_simp
      exact hK _ _ (fun _ => rfl) (fun h => by cases h) HC.out trivial
    · rintro av w1 hC hx' hd K hK
      have HC := Lib.hid hC
      clear hC
      have t5 : av.tmps[5]?.getD undef = .pointer (some ⟨bb, 0, none⟩) := Reg.slot_val (hd 1 (by kernel_rfl) 5 rfl)
      go_simp
      exact hK _ _ (fun _ => rfl) (fun h => by cases h) HC.out trivial
    · rintro av w1 hC hx' hd K hK
      have HC := Lib.hid hC
      clear hC
      have t6 : av.tmps[6]?.getD undef = .pointer (some ⟨bb, 0, none⟩) := Reg.slot_val (hd 2 (by kernel_rfl) 6 rfl)
      have b0 := HC.out.2.1 0 _ rfl
      go_simp
      exact hK _ _ (fun _ => rfl) (fun h => by cases h) HC.out trivial
    · rintro av w1 hC hx' hd K hK
      have HC := Lib.hid hC
      clear hC
      have t4 : av.tmps[4]?.getD undef = sv a b x y := Reg.slot_val (hd 0 (by kernel_rfl) 4 rfl)
      have t7 : av.tmps[7]?.getD undef = .slice B.pa B.pl B.pc := Reg.slot_val (hd 3 (by kernel_rfl) 7 rfl)
      go_simp
      refine (impl_way a b x y B.pa B.pl B.pc cs w1 (HV.out.below HC.out.2.2) ha hb).mono ?_
      rintro en w2 ⟨p, q, r, rfl, hf, hB2⟩
      exact hK _ _ (fun _ => ⟨p, q, r, rfl, hf⟩) (fun h => by cases h) ⟨HC.out.1.below hB2, HC.out.2.1.below hB2, HC.out.2.2.trans (hB2.mono HC.out.2.2.size)⟩ trivial
    · rintro av w1 hC hx' hd K hK
      have HC := Lib.hid hC
      clear hC
      obtain ⟨p, q, r, g8, h1, h2, h3⟩ := hd 4 (by kernel_rfl) 8 rfl
      have t8 := Reg.slot_val g8
      clear g8
      go_simp
      refine (impl_LongOf _ _ _ _ _ _ _ h1 h2 h3).mono ?_
      rintro en w2 ⟨r, rfl, hr, hB2⟩
      exact hK _ _ (fun _ => ⟨r, rfl, hr⟩) (fun h => by cases h) ⟨HC.out.1.below hB2, HC.out.2.1.below hB2, HC.out.2.2.trans (hB2.mono HC.out.2.2.size)⟩ trivial
    · rintro av w1 hC hx' hd K hK
      have HC := Lib.hid hC
      clear hC
      have t2 : av.tmps[2]?.getD undef = .pointer (some ⟨w.heap.size, 0, none⟩) := Reg.slot_val (hx' 2 (by kernel_rfl))
      go_simp
      exact hK _ _ (fun _ => rfl) (fun h => by cases h) HC.out trivial
    · rintro av w1 hC hx' hd K hK
      have HC := Lib.hid hC
      clear hC
      have t10 : av.tmps[10]?.getD undef = .pointer (some ⟨w.heap.size, 2, none⟩) := Reg.slot_val (hd 6 (by kernel_rfl) 10 rfl)
      have z2 := HC.out.1 2 _ rfl
      go_simp
      exact hK _ _ (fun _ => rfl) (fun h => by cases h) HC.out trivial
    · rintro av w1 hC hx' hd K hK
      have HC := Lib.hid hC
      clear hC
      obtain ⟨r, g9, h1⟩ := hd 5 (by kernel_rfl) 9 rfl
      have t9 := Reg.slot_val g9
      clear g9
      have t11 : av.tmps[11]?.getD undef = .float .f32 x := Reg.slot_val (hd 7 (by kernel_rfl) 11 rfl)
      go_simp
      exact hK _ _ (fun _ => ⟨_, rfl, FV_fR h1 hx⟩) (fun h => by cases h) ⟨HC.out.1, HC.out.2.1, below_drewN HC.out.2.2 _⟩ trivial
    · rintro av w1 hC hx' hd K hK
      have HC := Lib.hid hC
      clear hC
      obtain ⟨r, g12, h1⟩ := hd 8 (by kernel_rfl) 12 rfl
      have t12 := Reg.slot_val g12
      clear g12
      go_simp
      exact hK _ _ (fun _ => ⟨_, rfl, h1⟩) (fun h => by cases h) HC.out trivial
  · rintro f w6 hC hR hT
    obtain ⟨z, e3, hz⟩ := hR 9 3 rfl
    simp only [Reg.mixL, e3]
    have HB := Lib.hid hC.2.2
    have HZ := Lib.hid hz
    clear hR hT hC hz
    go_wp2
    go_ret
    exact ⟨_, rfl, HZ.out, HB.out⟩
end Go.Proofs.Ytmbekamnogbgaab


/-
Sums of lists: what the program and its model return, and that the law returns true. Conditions: none.
-/
namespace Go.Proofs.Ytmbekamnogbgaab
open Go Fk Go.RowKit
set_option linter.unusedVariables false
set_option maxRecDepth 8000

def sumC (zs : List Nat) : Option Nat := zs.foldl (fun c z => fop .add .f32 c (cls .f32 z)) (some 0)
theorem sumC_snoc (zs : List Nat) (k : Nat) (hk : k < zs.length) : sumC (zs.take (k + 1)) = fop .add .f32 (sumC (zs.take k)) (cls .f32 (zs.getD k 0)) := by
  rw [List.take_succ_eq_append_getElem hk]
  unfold sumC
  rw [List.foldl_append]
  simp [List.getD, hk]
theorem FV_zero : FV .f32 0 (some 0) := ⟨by decide, by decide⟩
theorem FV_at {w : World} {a : Option Addr} {len cap : Nat} {zs : List Nat} (h : IsFs .f32 w a len cap zs) (k : Nat) (hk : k < len) : FV .f32 (zs.getD k 0) (cls .f32 (zs.getD k 0)) := by
  have hl := h.1
  have hkz : k < zs.length := by omega
  refine FV.self ?_
  rw [show zs.getD k 0 = zs[k] by simp [List.getD, hkz]]
  exact h.2.2.2.1 _ (List.getElem_mem _)

end Go.Proofs.Ytmbekamnogbgaab


/-
Marks in lists of integers: they are written where the list lies, and nowhere else. Conditions: the list's cells may be written.
-/
namespace Go.Proofs.Ytmbekamnogbgaab
open Go Fk Go.RowKit
set_option linter.unusedVariables false
set_option maxRecDepth 8000

/-- What lies outside the blocks from lo to hi is as it was; every cell is still there, and may be written if it could be. -/
structure Mark (lo hi : Nat) (w w' : World) : Prop where
  below : Below lo w w'
  above : ∀ k, hi ≤ k → k < w.heap.size → w'.heap[k]? = w.heap[k]?
  alive : ∀ n i, (∃ v, w.cell? ⟨n, i, none⟩ = some v) → ∃ v, w'.cell? ⟨n, i, none⟩ = some v
  frozen : ∀ n i, n < w.heap.size → w'.frozen? ⟨n, i, none⟩ = w.frozen? ⟨n, i, none⟩
theorem Mark.refl (lo hi : Nat) (w : World) : Mark lo hi w w := ⟨Below.refl _ _, fun _ _ _ => rfl, fun _ _ h => h, fun _ _ _ => rfl⟩
theorem Mark.trans {lo hi : Nat} {a b c : World} (h : Mark lo hi a b) (k : Mark lo hi b c) : Mark lo hi a c :=
  ⟨h.below.trans k.below, fun j h1 h2 => (k.above j h1 (Nat.lt_of_lt_of_le h2 h.below.size)).trans (h.above j h1 h2), fun n i e => k.alive n i (h.alive n i e), fun n i e => (k.frozen n i (Nat.lt_of_lt_of_le e h.below.size)).trans (h.frozen n i e)⟩
theorem Mark.set {lo hi : Nat} {w : World} {b o : Nat} {u : Value} (h1 : lo ≤ b) (h2 : b < hi) : Mark lo hi w (w.setCell ⟨b, o, none⟩ u) := by
  refine ⟨(Below.refl _ _).setCell h1 _, fun k hk _ => Below.heap_setCell _ _ _ _ (by simp; omega), fun n i ⟨v, hv⟩ => ?_, fun n i _ => by simp⟩
  by_cases h : (⟨b, o, none⟩ : Addr) = ⟨n, i, none⟩
  · rw [← h] at hv ⊢; exact ⟨_, World.cell?_setCell_same w _ u hv⟩
  · exact ⟨v, by rw [World.cell?_setCell_other _ _ _ _ h]; exact hv⟩
theorem Mark.wide {lo hi lo' hi' : Nat} {w w' : World} (h : Mark lo hi w w') (h1 : lo' ≤ lo) (h2 : hi ≤ hi') : Mark lo' hi' w w' :=
  ⟨h.below.mono h1, fun k hk e => h.above k (Nat.le_trans h2 hk) e, h.alive, h.frozen⟩
theorem Mark.alloc {lo hi : Nat} {w : World} (h : lo ≤ w.heap.size) (o : Obj) : Mark lo hi w (w.alloc o) := by
  refine ⟨(Below.refl _ _).alloc h _, fun k _ hk => Below.heap_alloc _ _ _ hk, fun n i ⟨v, hv⟩ => ⟨v, ?_⟩, fun n i hn => ?_⟩
  · rw [World.cell?_alloc_lt (h := World.block_lt_of_cell? _ _ hv)]; exact hv
  · exact World.frozen?_of_block (Below.heap_alloc _ _ _ hn)
theorem Mark.drewN {lo hi : Nat} {w : World} (n : Nat) : Mark lo hi w (w.drewN n) := ⟨below_drewN (Below.refl _ _) n, fun _ _ _ => rfl, fun _ _ h => h, fun _ _ _ => rfl⟩
theorem Mark.cell {lo hi : Nat} {w w' : World} (h : Mark lo hi w w') {b i : Nat} {v : Value} (hb : b < lo ∨ hi ≤ b) (hv : w.cell? ⟨b, i, none⟩ = some v) : w'.cell? ⟨b, i, none⟩ = some v := by
  rcases hb with hb | hb
  · rw [h.below.cell (p := ⟨b, i, none⟩) hb]; exact hv
  · rw [World.cell?_of_block (w := w) (h.above b hb (World.block_lt_of_cell? _ _ hv))]; exact hv
/-- These cells are there, in a block from lo to hi, and may be written. -/
def Own (lo hi : Nat) (w : World) (b o n : Nat) : Prop := lo ≤ b ∧ b < hi ∧ b < w.heap.size ∧ ∀ j, j < n → (∃ v, w.cell? ⟨b, o + j, none⟩ = some v) ∧ w.frozen? ⟨b, o + j, none⟩ = false
theorem Own.mark {lo hi lo' hi' : Nat} {w w' : World} {b o n : Nat} (h : Own lo hi w b o n) (k : Mark lo' hi' w w') : Own lo hi w' b o n :=
  ⟨h.1, h.2.1, Nat.lt_of_lt_of_le h.2.2.1 k.below.size, fun j hj => ⟨k.alive _ _ (h.2.2.2 j hj).1, by rw [k.frozen _ _ h.2.2.1]; exact (h.2.2.2 j hj).2⟩⟩
set_option maxHeartbeats 400000 in
theorem laws_markInt64S (lo hi b o len cap : Nat) (k0 : Nat) (w : World) (h : Own lo hi w b o len) (hk : k0 + len ≤ 9000000000000000000) :
    Calls Try.prog 20 #[.slice (some ⟨b, o, none⟩) len cap, .int .i64 k0] w fun e w' => e = .returned (.int .i64 ((k0 + len : Nat) : Int)) ∧ (∀ j, j < len → w'.cell? ⟨b, o + j, none⟩ = some (.int .i64 ((k0 + j : Nat) : Int))) ∧ (∀ n i, (n ≠ b ∨ i < o ∨ o + len ≤ i) → w'.cell? ⟨n, i, none⟩ = w.cell? ⟨n, i, none⟩) ∧ Mark lo hi w w' := by
  obtain ⟨h1, h2, h3, h4⟩ := h
  have H4 := Lib.hid h4
  have H1 := Lib.hid h1
  have H2 := Lib.hid h2
  have H3 := Lib.hid h3
  clear h1 h2 h3 h4
  go_enter Try.func20, Try.ntmps20
  go_wp2
  go_loopw [1, 5] (fun q i w' => ∃ k : Nat, k ≤ len ∧ i = .int .i64 k ∧ q = .int .i64 ((k0 + k : Nat) : Int) ∧ Aside ((∀ j, j < k → w'.cell? ⟨b, o + j, none⟩ = some (.int .i64 ((k0 + j : Nat) : Int))) ∧ (∀ n i, (n ≠ b ∨ i < o ∨ o + len ≤ i) → w'.cell? ⟨n, i, none⟩ = w.cell? ⟨n, i, none⟩) ∧ Mark lo hi w w')) (fun _ i _ => len - (intOf i).toNat)
  case atStart => exact ⟨0, Nat.zero_le _, rfl, rfl, fun j hj => absurd hj (by omega), fun _ _ _ => rfl, Mark.refl _ _ _⟩
  case round =>
    obtain ⟨k, hkl, rfl, rfl, hA⟩ := hrel
    by_cases hlt : k < len
    · obtain ⟨hdone, hother, hM⟩ := hA.out
      obtain ⟨v, hv⟩ := hM.alive _ _ (H4.out k hlt).1
      have hf : wr.frozen? ⟨b, o + k, none⟩ = false := by rw [hM.frozen _ _ H3.out]; exact (H4.out k hlt).2
      have HD := Lib.hid hdone
      have HO := Lib.hid hother
      have HM := Lib.hid hM
      have hk0 : (0 : Int) ≤ (k : Int) := by omega
      have hk1 : (k : Int) < (len : Int) := by omega
      clear hA hdone hother hM
      go_wp2
      go_roundw
      case rel =>
        refine ⟨k + 1, by omega, by go_num, by go_num, fun j hj => ?_, fun n i hn => ?_, HM.out.trans (Mark.set H1.out H2.out)⟩
        · by_cases hjk : j = k
          · subst hjk; exact World.cell?_setCell_same _ _ _ hv
          · rw [World.cell?_setCell_other _ _ _ _ (by simp <;> omega)]; exact HD.out j (by omega)
        · rw [World.cell?_setCell_other _ _ _ _ (by simp <;> omega)]; exact HO.out n i hn
      case measure => simp [intOf]; omega
    · obtain rfl : k = len := by omega
      obtain ⟨hdone, hother, hM⟩ := hA.out
      have HD := Lib.hid hdone
      have HO := Lib.hid hother
      have HM := Lib.hid hM
      clear hA hdone hother hM
      go_wp2
      go_ret
      exact ⟨rfl, HD.out, HO.out, HM.out⟩
theorem laws_heldInt64S (b o len cap : Nat) (k0 : Nat) (w : World) (h : ∀ j, j < len → w.cell? ⟨b, o + j, none⟩ = some (.int .i64 ((k0 + j : Nat) : Int))) (hk : k0 + len ≤ 9000000000000000000) :
    Calls Try.prog 21 #[.slice (some ⟨b, o, none⟩) len cap, .int .i64 k0] w fun e w' => e = .returned (.int .i64 ((k0 + len : Nat) : Int)) ∧ w' = w := by
  have H := Lib.hid h
  clear h
  go_enter Try.func21, Try.ntmps21
  go_wp2
  go_loopw [1, 5] (fun q i w' => ∃ k : Nat, k ≤ len ∧ i = .int .i64 k ∧ q = .int .i64 ((k0 + k : Nat) : Int) ∧ w' = w) (fun _ i _ => len - (intOf i).toNat)
  case atStart => exact ⟨0, Nat.zero_le _, rfl, rfl, rfl⟩
  case round =>
    obtain ⟨k, hkl, rfl, rfl, rfl⟩ := hrel
    by_cases hlt : k < len
    · have hv := H.out k hlt
      have hk0 : (0 : Int) ≤ (k : Int) := by omega
      have hk1 : (k : Int) < (len : Int) := by omega
      go_wp2
      go_roundw
      case rel => exact ⟨k + 1, by omega, by go_num, by go_num, by first | trivial | rfl⟩
      case measure => simp [intOf]; omega
    · obtain rfl : k = len := by omega
      go_wp2
      go_ret
      exact ⟨rfl, by first | rfl | trivial⟩
end Go.Proofs.Ytmbekamnogbgaab

/-
Texts in one: what EdgesOf stands on, part 4. Conditions: those of each.
-/
import Derived.Test.YtmbekamnogbgaaaKEdgesOf3

/-
Marks in lists of vectors. Conditions: the list's cells may be written.
-/
namespace Go.Proofs.Ytmbekamnogbgaaa
open Go Fk Go.RowKit
set_option linter.unusedVariables false
set_option maxRecDepth 8000

set_option maxHeartbeats 400000 in
theorem laws_markVectorS (lo hi b o len cap : Nat) (k0 : Nat) (w : World) (h : Own lo hi w b o (len * 3)) (hk : k0 + len * 3 ≤ 9000000000000000000) :
    Calls Try.prog 31 #[.slice (some ⟨b, o, none⟩) len cap, .int .i64 k0] w fun e w' => e = .returned (.int .i64 ((k0 + len * 3 : Nat) : Int)) ∧ (∀ j, j < len * 3 → w'.cell? ⟨b, o + j, none⟩ = some (.float .f32 (floatOfInt .f32 ((k0 + j : Nat) : Int)))) ∧ (∀ n i, (n ≠ b ∨ i < o ∨ o + len * 3 ≤ i) → w'.cell? ⟨n, i, none⟩ = w.cell? ⟨n, i, none⟩) ∧ Mark lo hi w w' := by
  have u := Try.underlying31
  have uv := Try.underlying34
  obtain ⟨h1, h2, h3, h4⟩ := h
  have H4 := Lib.hid h4
  have H1 := Lib.hid h1
  have H2 := Lib.hid h2
  have H3 := Lib.hid h3
  clear h1 h2 h3 h4
  go_enter Try.func31, Try.ntmps31
  go_wp2
  go_loopw [1, 5] (fun q i w' => ∃ k : Nat, k ≤ len ∧ i = .int .i64 k ∧ q = .int .i64 ((k0 + k * 3 : Nat) : Int) ∧ Aside ((∀ j, j < k * 3 → w'.cell? ⟨b, o + j, none⟩ = some (.float .f32 (floatOfInt .f32 ((k0 + j : Nat) : Int)))) ∧ (∀ n i, (n ≠ b ∨ i < o ∨ o + len * 3 ≤ i) → w'.cell? ⟨n, i, none⟩ = w.cell? ⟨n, i, none⟩) ∧ Mark lo hi w w')) (fun _ i _ => len - (intOf i).toNat)
  case atStart => exact ⟨0, Nat.zero_le _, rfl, rfl, fun j hj => absurd hj (by omega), fun _ _ _ => rfl, Mark.refl _ _ _⟩
  case round =>
    obtain ⟨k, hkl, rfl, rfl, hA⟩ := hrel
    by_cases hlt : k < len
    · obtain ⟨hdone, hother, hM⟩ := hA.out
      obtain ⟨v0, hv0⟩ := hM.alive _ _ (H4.out (k * 3) (by omega)).1
      obtain ⟨v1, hv1⟩ := hM.alive _ _ (H4.out (k * 3 + 1) (by omega)).1
      obtain ⟨v2, hv2⟩ := hM.alive _ _ (H4.out (k * 3 + 2) (by omega)).1
      have hf0 : wr.frozen? ⟨b, o + k * 3, none⟩ = false := by rw [hM.frozen _ _ H3.out]; exact (H4.out (k * 3) (by omega)).2
      have hf1 : wr.frozen? ⟨b, o + k * 3 + 1, none⟩ = false := by rw [hM.frozen _ _ H3.out]; exact (H4.out (k * 3 + 1) (by omega)).2
      have hf2 : wr.frozen? ⟨b, o + k * 3 + 2, none⟩ = false := by rw [hM.frozen _ _ H3.out]; exact (H4.out (k * 3 + 2) (by omega)).2
      rw [← Nat.add_assoc] at hv1 hv2
      have HD := Lib.hid hdone
      have HO := Lib.hid hother
      have HM := Lib.hid hM
      have hk0 : (0 : Int) ≤ (k : Int) := by omega
      have hk1 : (k : Int) < (len : Int) := by omega
      clear hA hdone hother hM
      go_wp2
      go_roundw
      case rel =>
        obtain ⟨e0, e1, e2, eo⟩ := set3k (u := .float .f32 (floatOfInt .f32 ((k0 : Int) + (k : Int) * 3))) (v := .float .f32 (floatOfInt .f32 ((k0 : Int) + (k : Int) * 3 + 1))) (t := .float .f32 (floatOfInt .f32 ((k0 : Int) + (k : Int) * 3 + 1 + 1))) hv0 hv1 hv2
        refine ⟨k + 1, by omega, by go_num, by go_num, fun j hj => ?_, fun n i hn => ?_, ((HM.out.trans (Mark.set H1.out H2.out)).trans (Mark.set H1.out H2.out)).trans (Mark.set H1.out H2.out)⟩
        · by_cases j0 : j = k * 3
          · subst j0; rw [e0]; simp
          · by_cases j1 : j = k * 3 + 1
            · subst j1; rw [← Nat.add_assoc, e1]; simp; congr 1
            · by_cases j2 : j = k * 3 + 2
              · subst j2; rw [← Nat.add_assoc, e2]; simp; congr 1
              · rw [eo _ (by omega) (by omega) (by omega)]; exact HD.out j (by omega)
        · rw [World.cell?_setCell_other _ _ _ _ (by simp <;> omega), World.cell?_setCell_other _ _ _ _ (by simp <;> omega), World.cell?_setCell_other _ _ _ _ (by simp <;> omega)]; exact HO.out n i hn
      case measure => simp [intOf]; omega
    · obtain rfl : k = len := by omega
      obtain ⟨hdone, hother, hM⟩ := hA.out
      have HD := Lib.hid hdone
      have HO := Lib.hid hother
      have HM := Lib.hid hM
      clear hA hdone hother hM
      go_wp2
      go_ret
      exact ⟨rfl, HD.out, HO.out, HM.out⟩
end Go.Proofs.Ytmbekamnogbgaaa


/-
Marks in lists of vectors: they are held. Conditions: they were written.
-/
namespace Go.Proofs.Ytmbekamnogbgaaa
open Go Fk Go.RowKit
set_option linter.unusedVariables false
set_option maxRecDepth 8000

theorem mark_self (z : Int) : (FloatKind.f32.format.order (floatOfInt .f32 z) (floatOfInt .f32 z) != some .eq) = false := by
  have h : (FloatKind.f32.decode (floatOfInt .f32 z)).isNaN = false := isNaN_write .f32 (.number (z < 0) z.natAbs 0) rfl
  rw [order_self h]; rfl
set_option maxHeartbeats 400000 in
theorem laws_heldVectorS (b o len cap : Nat) (k0 : Nat) (w : World) (h : ∀ j, j < len * 3 → w.cell? ⟨b, o + j, none⟩ = some (.float .f32 (floatOfInt .f32 ((k0 + j : Nat) : Int)))) (hk : k0 + len * 3 ≤ 9000000000000000000) :
    Calls Try.prog 96 #[.slice (some ⟨b, o, none⟩) len cap, .int .i64 k0] w fun e w' => e = .returned (.int .i64 ((k0 + len * 3 : Nat) : Int)) ∧ w' = w := by
  have u := Try.underlying31
  have uv := Try.underlying34
  have H := Lib.hid h
  clear h
  go_enter Try.func96, Try.ntmps96
  go_wp2
  go_loopw [1, 5] (fun q i w' => ∃ k : Nat, k ≤ len ∧ i = .int .i64 k ∧ q = .int .i64 ((k0 + k * 3 : Nat) : Int) ∧ w' = w) (fun _ i _ => len - (intOf i).toNat)
  case atStart => exact ⟨0, Nat.zero_le _, rfl, rfl, rfl⟩
  case round =>
    obtain ⟨k, hkl, rfl, rfl, rfl⟩ := hrel
    by_cases hlt : k < len
    · have hv0 := H.out (k * 3) (by omega)
      have hv1 := H.out (k * 3 + 1) (by omega)
      have hv2 := H.out (k * 3 + 2) (by omega)
      rw [← Nat.add_assoc, show ((k0 + (k * 3 + 1) : Nat) : Int) = (k0 : Int) + (k : Int) * 3 + 1 by omega] at hv1
      rw [← Nat.add_assoc, show ((k0 + (k * 3 + 2) : Nat) : Int) = (k0 : Int) + (k : Int) * 3 + 1 + 1 by omega] at hv2
      rw [show ((k0 + k * 3 : Nat) : Int) = (k0 : Int) + (k : Int) * 3 by omega] at hv0
      have s0 := mark_self ((k0 : Int) + (k : Int) * 3)
      have s1 := mark_self ((k0 : Int) + (k : Int) * 3 + 1)
      have s2 := mark_self ((k0 : Int) + (k : Int) * 3 + 1 + 1)
      have hk0 : (0 : Int) ≤ (k : Int) := by omega
      have hk1 : (k : Int) < (len : Int) := by omega
      go_wp2
      go_roundw
      case rel => exact ⟨k + 1, by omega, by go_num, by go_num, by first | trivial | rfl⟩
      case measure => simp [intOf]; omega
    · obtain rfl : k = len := by omega
      go_wp2
      go_ret
      exact ⟨rfl, by first | rfl | trivial⟩
end Go.Proofs.Ytmbekamnogbgaaa


/-
Marks in meshes: they are written where the mesh's lists lie, and nowhere else. Conditions: the lists' cells may be written, no row lies where the list of rows lies.
-/
namespace Go.Proofs.Ytmbekamnogbgaaa
open Go Fk Go.RowKit
set_option linter.unusedVariables false
set_option maxRecDepth 8000

/-- Rows of integers that may be written, none of them where the list of rows lies. -/
def Rows (lo hi : Nat) (w : World) (g o len : Nat) (ts : List (List Int)) : Prop :=
  ∀ j, j < len → ∃ G O c, G ≠ g ∧ w.cell? ⟨g, o + j, none⟩ = some (.slice (some ⟨G, O, none⟩) (ts.getD j []).length c) ∧ Own lo hi w G O (ts.getD j []).length
set_option maxHeartbeats 400000 in
theorem laws_markInt64SS (lo hi g o len cap : Nat) (ts : List (List Int)) (k0 : Nat) (w : World) (h : Rows lo hi w g o len ts) (hl : len ≤ 1048576) (hn : ∀ j, j < len → (ts.getD j []).length ≤ 1048576) (hk : k0 ≤ 1000000000000000000) :
    Calls Try.prog 63 #[.slice (some ⟨g, o, none⟩) len cap, .int .i64 k0] w fun e w' => ∃ z : Nat, z ≤ k0 + len * 1048576 ∧ e = .returned (.int .i64 z) ∧ (∀ i, w'.cell? ⟨g, i, none⟩ = w.cell? ⟨g, i, none⟩) ∧ Mark lo hi w w' := by
  have H := Lib.hid h
  have HN := Lib.hid hn
  clear h hn
  go_enter Try.func63, Try.ntmps63
  go_wp2
  go_loopw [1, 5] (fun q i w' => ∃ k : Nat, k ≤ len ∧ i = .int .i64 k ∧ (∃ z : Nat, z ≤ k0 + k * 1048576 ∧ q = .int .i64 z) ∧ Aside ((∀ i, w'.cell? ⟨g, i, none⟩ = w.cell? ⟨g, i, none⟩) ∧ Mark lo hi w w')) (fun _ i _ => len - (intOf i).toNat)
  case atStart => exact ⟨0, Nat.zero_le _, rfl, ⟨k0, by omega, rfl⟩, fun _ => rfl, Mark.refl _ _ _⟩
  case round =>
    obtain ⟨k, hkl, rfl, ⟨z, hz, rfl⟩, hA⟩ := hrel
    by_cases hlt : k < len
    · obtain ⟨hsame, hM⟩ := hA.out
      obtain ⟨G, O, c, hne, hc, hown⟩ := H.out k hlt
      have hlen := HN.out k hlt
      have hc' : wr.cell? ⟨g, o + k, none⟩ = some (.slice (some ⟨G, O, none⟩) (ts.getD k []).length c) := (hsame _).trans hc
      have HS := Lib.hid hsame
      have HM := Lib.hid hM
      have HW := Lib.hid (hown.mark hM)
      have HNE := Lib.hid hne
      generalize (ts.getD k []).length = n at *
      have hk0 : (0 : Int) ≤ (k : Int) := by omega
      have hk1 : (k : Int) < (len : Int) := by omega
      clear hA hsame hM hc hown hne
      go_wp2_with (go_at_call 56; refine (laws_markInt64S lo hi G O n c z wr HW.out (by omega)).mono ?_; rintro e w1 ⟨rfl, hd, ho, hM1⟩; have HO := Lib.hid ho; have HM1 := Lib.hid hM1; clear hd ho hM1)
      go_roundw
      case rel => exact ⟨k + 1, by omega, by go_num, ⟨z + n, by omega, rfl⟩, fun i => (HO.out g i (.inl (fun h => HNE.out h.symm))).trans (HS.out i), HM.out.trans HM1.out⟩
      case measure => simp [intOf]; omega
    · obtain rfl : k = len := by omega
      obtain ⟨hsame, hM⟩ := hA.out
      have HS := Lib.hid hsame
      have HM := Lib.hid hM
      clear hA hsame hM
      go_wp2
      go_ret
      exact ⟨z, hz, rfl, HS.out, HM.out⟩
theorem Rows.mark {lo hi g o len : Nat} {ts : List (List Int)} {w w' : World} (h : Rows lo hi w g o len ts) (hs : ∀ i, w'.cell? ⟨g, i, none⟩ = w.cell? ⟨g, i, none⟩) {lo' hi' : Nat} (hM : Mark lo' hi' w w') : Rows lo hi w' g o len ts := by
  intro j hj
  obtain ⟨G, O, c, h1, h2, h3⟩ := h j hj
  exact ⟨G, O, c, h1, (hs _).trans h2, h3.mark hM⟩
/-- A mesh whose lists may be written. -/
def OwnM (lo hi : Nat) (w : World) (b o b' o' pl tl : Nat) (ts : List (List Int)) : Prop := Own lo hi w b o (pl * 3) ∧ Rows lo hi w b' o' tl ts ∧ b ≠ b' ∧ b' < w.heap.size
theorem laws_markMesh (lo hi b o b' o' pl pc tl tc : Nat) (ts : List (List Int)) (k0 : Nat) (w : World) (h : OwnM lo hi w b o b' o' pl tl ts) (hlo : lo ≤ w.heap.size) (h1 : pl ≤ 1048576) (h2 : tl ≤ 1048576) (hn : ∀ j, j < tl → (ts.getD j []).length ≤ 1048576) (hk : k0 ≤ 1000000) :
    Calls Try.prog 21 #[.agg #[.slice (some ⟨b, o, none⟩) pl pc, .slice (some ⟨b', o', none⟩) tl tc], .int .i64 k0] w fun e w' => ∃ z : Nat, e = .returned (.int .i64 z) ∧ Mark lo hi w w' := by
  have ui := Try.underlying29
  obtain ⟨hown, hrows, hne, hlt⟩ := h
  have hA : Mark lo hi w (w.alloc (.cells #[.slice (some ⟨b, o, none⟩) pl pc, .slice (some ⟨b', o', none⟩) tl tc] 29)) := Mark.alloc hlo _
  have a1 : (w.alloc (.cells #[.slice (some ⟨b, o, none⟩) pl pc, .slice (some ⟨b', o', none⟩) tl tc] 29)).cell? ⟨w.heap.size, 1, none⟩ = some (.slice (some ⟨b', o', none⟩) tl tc) := by go_simp
  have a0 : (w.alloc (.cells #[.slice (some ⟨b, o, none⟩) pl pc, .slice (some ⟨b', o', none⟩) tl tc] 29)).cell? ⟨w.heap.size, 0, none⟩ = some (.slice (some ⟨b, o, none⟩) pl pc) := by go_simp
  have nb : w.heap.size ≠ b := by have := hown.2.2.1; omega
  have hV := laws_markVectorS lo hi b o pl pc k0 _ (hown.mark hA) (by omega)
  have hs : ∀ i, (w.alloc (.cells #[.slice (some ⟨b, o, none⟩) pl pc, .slice (some ⟨b', o', none⟩) tl tc] 29)).cell? ⟨b', i, none⟩ = w.cell? ⟨b', i, none⟩ := fun i => by rw [World.cell?_alloc_lt (h := hlt)]
  have HV := Lib.hid hV
  have HA := Lib.hid hA
  have HR := Lib.hid (hrows.mark hs hA)
  have HNE := Lib.hid hne
  have HNB := Lib.hid nb
  have HN := Lib.hid hn
  clear hV hA hrows hne hs nb hown hlt hn
  generalize hCH : w.alloc (.cells #[.slice (some ⟨b, o, none⟩) pl pc, .slice (some ⟨b', o', none⟩) tl tc] 29) = W at *
  go_enter Try.func21, Try.ntmps21
  go_wp2_with fail
  refine HV.out.mono ?_
  rintro e w1 ⟨rfl, _, ho, hM1⟩
  have a1' : w1.cell? ⟨w.heap.size, 1, none⟩ = some (.slice (some ⟨b', o', none⟩) tl tc) := (ho _ _ (.inl HNB.out)).trans a1
  have HR1 := Lib.hid (HR.out.mark (fun i => ho b' i (.inl (fun h => HNE.out h.symm))) hM1)
  have HM1 := Lib.hid (HA.out.trans hM1)
  clear ho hM1 a0 a1 HV HR hCH
  generalize hq : k0 + pl * 3 = q at *
  have hq' : q ≤ 1000000000000000000 := by omega
  clear hq
  go_wp2_with (go_at_call 63; refine (laws_markInt64SS lo hi b' o' tl tc ts q w1 HR1.out h2 HN.out hq').mono ?_; rintro e w2 ⟨z, hz, rfl, _, hM2⟩; have HM2 := Lib.hid hM2; clear hM2)
  go_ret
  exact ⟨z, rfl, HM1.out.trans HM2.out⟩
end Go.Proofs.Ytmbekamnogbgaaa

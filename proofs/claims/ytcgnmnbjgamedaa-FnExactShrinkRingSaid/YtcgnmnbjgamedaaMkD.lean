
/-
Marks in meshes: they are written where the mesh's lists lie, and nowhere else. Conditions: the lists' cells may be written, no row lies where the list of rows lies.
-/
import Derived.Test.YtcgnmnbjgamedaaMkC
namespace Go.Proofs.Ytcgnmnbjgamedaa
open Go Fk Go.RowKit
set_option linter.unusedVariables false
set_option maxRecDepth 8000

/-- Rows of integers that may be written, none of them where the list of rows lies. -/
def Rows (lo hi : Nat) (w : World) (g o len : Nat) (ts : List (List Int)) : Prop :=
  ∀ j, j < len → ∃ G O c, G ≠ g ∧ w.cell? ⟨g, o + j, none⟩ = some (.slice (some ⟨G, O, none⟩) (ts.getD j []).length c) ∧ Own lo hi w G O (ts.getD j []).length
set_option maxHeartbeats 400000 in
theorem laws_markInt64SS (lo hi g o len cap : Nat) (ts : List (List Int)) (k0 : Nat) (w : World) (h : Rows lo hi w g o len ts) (hl : len ≤ 1048576) (hn : ∀ j, j < len → (ts.getD j []).length ≤ 1048576) (hk : k0 ≤ 1000000000000000000) :
    Calls Try.prog 78 #[.slice (some ⟨g, o, none⟩) len cap, .int .i64 k0] w fun e w' => ∃ z : Nat, z ≤ k0 + len * 1048576 ∧ e = .returned (.int .i64 z) ∧ (∀ i, w'.cell? ⟨g, i, none⟩ = w.cell? ⟨g, i, none⟩) ∧ Mark lo hi w w' := by
  have H := Lib.hid h
  have HN := Lib.hid hn
  clear h hn
  go_enter Try.func78, Try.ntmps78
  go_wp2
  go_loopw [1, 5] (fun q i w' => ∃ k : Nat, k ≤ len ∧ i = .int .i64 k ∧ (∃ z : Nat, z ≤ k0 + k * 1048576 ∧ q = .int .i64 z) ∧ Aside ((∀ i, w'.cell? ⟨g, i, none⟩ = w.cell? ⟨g, i, none⟩) ∧ Mark lo hi w w')) (fun _ i _ => len - (intOf i).toNat)
  case atStart => exact ⟨0, Nat.zero_le _, rfl, ⟨k0, by omega, rfl⟩, fun _ => rfl, Mark.refl _ _ _⟩
  case round =>
    obtain ⟨k, hkl, rfl, ⟨z, hz, rfl⟩, hA⟩ := hrel
    by_cases hlt : k < len
    · obtain ⟨hsame, hM⟩ := hA.out
      obtain ⟨G, O, c, hne, hc, hown⟩ := H.out k hlt
      have hlen := HN.out k hlt
      have hc' : wr.cell? ⟨g, o + k, none⟩ = some (.slice (some ⟨G, O, none⟩) (ts.getD k []).length c) := (hsame _).trans hc
      have HS := Lib.hid hsame
      have HM := Lib.hid hM
      have HW := Lib.hid (hown.mark hM)
      have HNE := Lib.hid hne
      generalize (ts.getD k []).length = n at *
      have hk0 : (0 : Int) ≤ (k : Int) := by omega
      have hk1 : (k : Int) < (len : Int) := by omega
      clear hA hsame hM hc hown hne
      go_wp2_with (go_at_call 113; refine (laws_markInt64S lo hi G O n c z wr HW.out (by omega)).mono ?_; rintro e w1 ⟨rfl, hd, ho, hM1⟩; have HO := Lib.hid ho; have HM1 := Lib.hid hM1; clear hd ho hM1)
      go_roundw
      case rel => exact ⟨k + 1, by omega, by go_num, ⟨z + n, by omega, rfl⟩, fun i => (HO.out g i (.inl (fun h => HNE.out h.symm))).trans (HS.out i), HM.out.trans HM1.out⟩
      case measure => simp [intOf]; omega
    · obtain rfl : k = len := by omega
      obtain ⟨hsame, hM⟩ := hA.out
      have HS := Lib.hid hsame
      have HM := Lib.hid hM
      clear hA hsame hM
      go_wp2
      go_ret
      exact ⟨z, hz, rfl, HS.out, HM.out⟩
theorem Rows.mark {lo hi g o len : Nat} {ts : List (List Int)} {w w' : World} (h : Rows lo hi w g o len ts) (hs : ∀ i, w'.cell? ⟨g, i, none⟩ = w.cell? ⟨g, i, none⟩) {lo' hi' : Nat} (hM : Mark lo' hi' w w') : Rows lo hi w' g o len ts := by
  intro j hj
  obtain ⟨G, O, c, h1, h2, h3⟩ := h j hj
  exact ⟨G, O, c, h1, (hs _).trans h2, h3.mark hM⟩
/-- A mesh whose lists may be written. -/
def OwnM (lo hi : Nat) (w : World) (b o b' o' pl tl : Nat) (ts : List (List Int)) : Prop := Own lo hi w b o (pl * 3) ∧ Rows lo hi w b' o' tl ts ∧ b ≠ b' ∧ b' < w.heap.size
theorem laws_markMesh (lo hi b o b' o' pl pc tl tc : Nat) (ts : List (List Int)) (k0 : Nat) (w : World) (h : OwnM lo hi w b o b' o' pl tl ts) (hlo : lo ≤ w.heap.size) (h1 : pl ≤ 1048576) (h2 : tl ≤ 1048576) (hn : ∀ j, j < tl → (ts.getD j []).length ≤ 1048576) (hk : k0 ≤ 1000000) :
    Calls Try.prog 37 #[.agg #[.slice (some ⟨b, o, none⟩) pl pc, .slice (some ⟨b', o', none⟩) tl tc], .int .i64 k0] w fun e w' => ∃ z : Nat, e = .returned (.int .i64 z) ∧ Mark lo hi w w' := by
  have ui := Try.underlying49
  obtain ⟨hown, hrows, hne, hlt⟩ := h
  have hA : Mark lo hi w (w.alloc (.cells #[.slice (some ⟨b, o, none⟩) pl pc, .slice (some ⟨b', o', none⟩) tl tc] 49)) := Mark.alloc hlo _
  have a1 : (w.alloc (.cells #[.slice (some ⟨b, o, none⟩) pl pc, .slice (some ⟨b', o', none⟩) tl tc] 49)).cell? ⟨w.heap.size, 1, none⟩ = some (.slice (some ⟨b', o', none⟩) tl tc) := by go_simp
  have a0 : (w.alloc (.cells #[.slice (some ⟨b, o, none⟩) pl pc, .slice (some ⟨b', o', none⟩) tl tc] 49)).cell? ⟨w.heap.size, 0, none⟩ = some (.slice (some ⟨b, o, none⟩) pl pc) := by go_simp
  have nb : w.heap.size ≠ b := by have := hown.2.2.1; omega
  have hV := laws_markVectorS lo hi b o pl pc k0 _ (hown.mark hA) (by omega)
  have hs : ∀ i, (w.alloc (.cells #[.slice (some ⟨b, o, none⟩) pl pc, .slice (some ⟨b', o', none⟩) tl tc] 49)).cell? ⟨b', i, none⟩ = w.cell? ⟨b', i, none⟩ := fun i => by rw [World.cell?_alloc_lt (h := hlt)]
  have HV := Lib.hid hV
  have HA := Lib.hid hA
  have HR := Lib.hid (hrows.mark hs hA)
  have HNE := Lib.hid hne
  have HNB := Lib.hid nb
  have HN := Lib.hid hn
  clear hV hA hrows hne hs nb hown hlt hn
  generalize hCH : w.alloc (.cells #[.slice (some ⟨b, o, none⟩) pl pc, .slice (some ⟨b', o', none⟩) tl tc] 49) = W at *
  go_enter Try.func37, Try.ntmps37
  go_wp2_with fail
  refine HV.out.mono ?_
  rintro e w1 ⟨rfl, _, ho, hM1⟩
  have a1' : w1.cell? ⟨w.heap.size, 1, none⟩ = some (.slice (some ⟨b', o', none⟩) tl tc) := (ho _ _ (.inl HNB.out)).trans a1
  have HR1 := Lib.hid (HR.out.mark (fun i => ho b' i (.inl (fun h => HNE.out h.symm))) hM1)
  have HM1 := Lib.hid (HA.out.trans hM1)
  clear ho hM1 a0 a1 HV HR hCH
  generalize hq : k0 + pl * 3 = q at *
  have hq' : q ≤ 1000000000000000000 := by omega
  clear hq
  go_wp2_with (go_at_call 78; refine (laws_markInt64SS lo hi b' o' tl tc ts q w1 HR1.out h2 HN.out hq').mono ?_; rintro e w2 ⟨z, hz, rfl, _, hM2⟩; have HM2 := Lib.hid hM2; clear hM2)
  go_ret
  exact ⟨z, rfl, HM1.out.trans HM2.out⟩
end Go.Proofs.Ytcgnmnbjgamedaa

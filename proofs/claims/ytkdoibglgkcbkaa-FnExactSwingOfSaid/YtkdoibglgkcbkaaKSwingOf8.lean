/-
Texts in one: what SwingOf stands on, part 8. Conditions: those of each.
-/
import Derived.Test.YtkdoibglgkcbkaaKSwingOf7

/-
How great a body is; copies of springs and of lists of them, and that they are the same: what the law's own functions return. Conditions: at most 2^20 of each.
-/
namespace Go.Proofs.Ytkdoibglgkcbkaa
open Go Fk Go.RowKit
set_option linter.unusedVariables false
set_option maxRecDepth 8000

abbrev sv (a b : Int) (x y : Nat) : Value := .agg #[.int .i64 a, .int .i64 b, .float .f32 x, .float .f32 y]
theorem laws_szSpringS (a : Option Addr) (len cap : Nat) (left : Int) (w : World) (h0 : 0 ≤ left) (h1 : left ≤ 1048576) (h2 : len ≤ 9223372036854775807) :
    Calls Try.prog 106 #[.slice a len cap, .int .i64 left] w fun e w' => (∃ r : Int, e = .returned (.int .i64 r) ∧ (r = -1 ∨ (0 ≤ r ∧ r ≤ 1048576 ∧ len ≤ 1048576))) ∧ w' = w := by
  by_cases h : left < len
  · go_enter Try.func106, Try.ntmps106
    go_wp2
    go_ret
    exact ⟨⟨-1, rfl, .inl rfl⟩, rfl⟩
  · go_enter Try.func106, Try.ntmps106
    go_wp2
    go_ret
    exact ⟨⟨_, rfl, .inr ⟨by omega, by omega, by omega⟩⟩, rfl⟩
theorem laws_szFloat32S (a : Option Addr) (len cap : Nat) (left : Int) (w : World) (h0 : 0 ≤ left) (h1 : left ≤ 1048576) (h2 : len ≤ 9223372036854775807) :
    Calls Try.prog 107 #[.slice a len cap, .int .i64 left] w fun e w' => (∃ r : Int, e = .returned (.int .i64 r) ∧ (r = -1 ∨ (0 ≤ r ∧ r ≤ 1048576 ∧ len ≤ 1048576))) ∧ w' = w := by
  by_cases h : left < len
  · go_enter Try.func107, Try.ntmps107
    go_wp2
    go_ret
    exact ⟨⟨-1, rfl, .inl rfl⟩, rfl⟩
  · go_enter Try.func107, Try.ntmps107
    go_wp2
    go_ret
    exact ⟨⟨_, rfl, .inr ⟨by omega, by omega, by omega⟩⟩, rfl⟩
theorem laws_szMesh' (pa ta : Option Addr) (pl pc tl tc : Nat) (cs : List C3) (ts : List (List Int)) (left : Int) (w : World) (hp : IsVs w pa pl pc cs) (ht : IsTs w ta tl tc ts) (h0 : 0 ≤ left) (h1 : left ≤ 1048576) :
    Calls Try.prog 30 #[.agg #[.slice pa pl pc, .slice ta tl tc], .int .i64 left] w fun e w' => (∃ r : Int, e = .returned (.int .i64 r) ∧ (r = -1 ∨ (0 ≤ r ∧ r ≤ 1048576 ∧ pl ≤ 1048576 ∧ tl ≤ 1048576 ∧ ∀ k, k < tl → (ts.getD k []).length ≤ 1048576))) ∧ Below w.heap.size w w' := by
  have hpm : pl ≤ 9223372036854775807 := by have h1 := hp.2.1; have h2 := hp.2.2.1; unfold maxLen at h2; omega
  have u := Try.underlying48
  go_enter Try.func30, Try.ntmps30
  go_wp2_with (go_at_call 16; refine (laws_szVectorS _ _ _ _ _ h0 h1 hpm).mono ?_; rintro e w1 ⟨⟨r, rfl, hr⟩, hw1⟩; rw [hw1]; clear hw1 w1; rcases hr with rfl | ⟨hr2, hr3, hn3⟩)
  · go_ret
    exact ⟨⟨-1, rfl, .inl rfl⟩, (Below.refl _ _).alloc (Nat.le_refl _) _⟩
  · have hb : Below w.heap.size w (w.alloc (.cells #[.slice pa pl pc, .slice ta tl tc] 48)) := (Below.refl _ _).alloc (Nat.le_refl _) _
    have ht' := ht.below hb
    go_wp2_with (go_at_call 77; refine (laws_szInt64SS _ _ _ _ _ _ ht' hr2 hr3).mono ?_; rintro e w1 ⟨⟨r', rfl, hr'⟩, hw1⟩; rw [hw1]; clear hw1 w1; rcases hr' with rfl | ⟨hr4, hr5, hn5, hn6⟩)
    · go_ret
      exact ⟨⟨-1, rfl, .inl rfl⟩, hb⟩
    · have HN := Lib.hid hn6
      clear hn6
      go_wp2
      go_ret
      exact ⟨⟨_, rfl, .inr ⟨hr4, hr5, hn3, hn5, HN.out⟩⟩, hb⟩

theorem laws_toSpring (a b : Int) (x y : Nat) (w : World) :
    Calls Try.prog 171 #[sv a b x y] w fun en w' => en = .returned (sv a b x y) ∧ Below w.heap.size w w' := by
  have u := Try.underlying22
  have ui := Try.underlying2
  have ul := Try.underlying170
  have uv := Try.underlying125
  go_enter Try.func171, Try.ntmps171
  go_wp2
  refine bodyPost_ret (v := sv a b x y) (by simp [results, Try.results171, go_sem]) rfl ⟨rfl, ?_⟩
  exact (((Below.refl _ _).alloc (Nat.le_refl _) _).alloc (by simp) _).alloc (by simp; omega) _
theorem laws_eqSpring (a b : Int) (x y x' y' : Nat) (w : World) (c d : Option Nat) (h1 : FV .f32 x c) (h2 : FV .f32 y d) (h1' : FV .f32 x' c) (h2' : FV .f32 y' d) :
    Calls Try.prog 175 #[sv a b x y, sv a b x' y'] w fun en w' => en = .returned (.bool true) ∧ Below w.heap.size w w' := by
  have u := Try.underlying22
  have u' := Try.underlying26
  have ui := Try.underlying2
  have uv := Try.underlying125
  go_enter Try.func175, Try.ntmps175
  go_wp2_with (go_at_call 15; refine (laws_sameFloat _ _ _ _ (FV_wR (by assumption)) (FV_wR (by assumption))).mono ?_; rintro en w' ⟨rfl, n1, rfl⟩)
  go_ret
  exact ⟨rfl, below_drewN (((Below.refl _ _).alloc (Nat.le_refl _) _).alloc (by simp) _) _⟩
theorem infoSp : (Try.prog.info? 125).map (fun i => (i.zero, i.size, i.bytes)) = some (some (.agg #[.int .i64 0, .int .i64 0, .float .f32 0, .float .f32 0]), 4, 24) := by kernel_rfl
theorem set4k {w : World} {n o : Nat} {u v t s u0 v0 t0 s0 : Value} (h0 : w.cell? ⟨n, o, none⟩ = some u0) (h1 : w.cell? ⟨n, o + 1, none⟩ = some v0) (h2 : w.cell? ⟨n, o + 2, none⟩ = some t0) (h3 : w.cell? ⟨n, o + 3, none⟩ = some s0) :
    ((((w.setCell ⟨n, o, none⟩ u).setCell ⟨n, o + 1, none⟩ v).setCell ⟨n, o + 2, none⟩ t).setCell ⟨n, o + 3, none⟩ s).cell? ⟨n, o, none⟩ = some u ∧ ((((w.setCell ⟨n, o, none⟩ u).setCell ⟨n, o + 1, none⟩ v).setCell ⟨n, o + 2, none⟩ t).setCell ⟨n, o + 3, none⟩ s).cell? ⟨n, o + 1, none⟩ = some v ∧
    ((((w.setCell ⟨n, o, none⟩ u).setCell ⟨n, o + 1, none⟩ v).setCell ⟨n, o + 2, none⟩ t).setCell ⟨n, o + 3, none⟩ s).cell? ⟨n, o + 2, none⟩ = some t ∧ ((((w.setCell ⟨n, o, none⟩ u).setCell ⟨n, o + 1, none⟩ v).setCell ⟨n, o + 2, none⟩ t).setCell ⟨n, o + 3, none⟩ s).cell? ⟨n, o + 3, none⟩ = some s ∧
    ∀ j, j ≠ o → j ≠ o + 1 → j ≠ o + 2 → j ≠ o + 3 → ((((w.setCell ⟨n, o, none⟩ u).setCell ⟨n, o + 1, none⟩ v).setCell ⟨n, o + 2, none⟩ t).setCell ⟨n, o + 3, none⟩ s).cell? ⟨n, j, none⟩ = w.cell? ⟨n, j, none⟩ := by
  obtain ⟨e0, e1, e2, eo⟩ := set3k (u := u) (v := v) (t := t) h0 h1 h2
  have e3 := (eo (o + 3) (by omega) (by omega) (by omega)).trans h3
  refine ⟨?_, ?_, ?_, World.cell?_setCell_same _ _ _ e3, fun j j0 j1 j2 j3 => ?_⟩
  · rw [World.cell?_setCell_other _ _ _ _ (by simp)]; exact e0
  · rw [World.cell?_setCell_other _ _ _ _ (by simp)]; exact e1
  · rw [World.cell?_setCell_other _ _ _ _ (by simp)]; exact e2
  · rw [World.cell?_setCell_other _ _ _ _ (by simp <;> omega)]; exact eo j j0 j1 j2
set_option maxHeartbeats 400000 in
theorem laws_toSpringSO (a : Option Addr) (len cap : Nat) (ss : List SC) (w : World) (h : IsSs w a len cap ss) (hlen : len ≤ 1048576) :
    Calls Try.prog 110 #[.slice a len cap] w fun e w' => e = .returned (.slice (some ⟨w.heap.size, 0, none⟩) len len) ∧ IsSs w' (some ⟨w.heap.size, 0, none⟩) len len ss ∧ Below w.heap.size w w' ∧ w.heap.size < w'.heap.size ∧ ∀ i, w'.frozen? ⟨w.heap.size, i, none⟩ = false := by
  have uv := Try.underlying125
  have ul := Try.underlying170
  have u := Try.underlying22
  have ui := Try.underlying2
  obtain ⟨i0, hi, hz0, hz1, hz2⟩ := info_parts infoSp
  have hzl := h.1
  have hwf := h.2.2.2.1
  obtain ⟨g, hg⟩ : ∃ g, g = w.heap.size := ⟨_, rfl⟩
  have hmk : (Instr.makeSlice 66 (.int .i64 len) (.int .i64 len)).run Try.prog w = .ok (.slice (some ⟨g, 0, none⟩) len len) (w.alloc (.cells (madeCells #[.int .i64 0, .int .i64 0, .float .f32 0, .float .f32 0] (len * 4)) 125)) := by
    have := run_make (P := Try.prog) w 66 125 i0 (.agg #[.int .i64 0, .int .i64 0, .float .f32 0, .float .f32 0]) Try.underlying66 hi hz0 .i64 .i64 len len (by omega) (Int.le_refl _) (by rw [hz2]; omega) (by omega)
    rw [this, hz1, hg]; simp; rfl
  have hstart : Below w.heap.size w (w.alloc (.cells (madeCells #[.int .i64 0, .int .i64 0, .float .f32 0, .float .f32 0] (len * 4)) 125)) ∧ g < (w.alloc (.cells (madeCells #[.int .i64 0, .int .i64 0, .float .f32 0, .float .f32 0] (len * 4)) 125)).heap.size ∧
      (∀ j, j < len * 4 → ∃ v, (w.alloc (.cells (madeCells #[.int .i64 0, .int .i64 0, .float .f32 0, .float .f32 0] (len * 4)) 125)).cell? ⟨g, j, none⟩ = some v) ∧ (∀ j, (w.alloc (.cells (madeCells #[.int .i64 0, .int .i64 0, .float .f32 0, .float .f32 0] (len * 4)) 125)).frozen? ⟨g, j, none⟩ = false) := by
    subst hg
    exact ⟨(Below.refl _ _).alloc (Nat.le_refl _) _, by simp, fun j hj => made_cell3 w _ (len * 4) j _ hj, fun j => by simp⟩
  rw [← hg] at hstart ⊢
  have HST := Lib.hid hstart
  have HG := Lib.hid hg
  have HWF := Lib.hid hwf
  clear hstart hg hwf
  go_enter Try.func110, Try.ntmps110
  go_wp2
  generalize hw0 : w.alloc (.cells (madeCells #[.int .i64 0, .int .i64 0, .float .f32 0, .float .f32 0] (len * 4)) 125) = w0 at HST ⊢
  go_loopw [4] (fun i w' => ∃ k : Nat, k ≤ len ∧ i = .int .i64 k ∧ Aside ((Below g w w' ∧ g < w'.heap.size ∧ (∀ j, j < len * 4 → ∃ v, w'.cell? ⟨g, j, none⟩ = some v) ∧ (∀ j, w'.frozen? ⟨g, j, none⟩ = false)) ∧
      ∀ j, j < k → ∃ p q, w'.cell? ⟨g, j * 4, none⟩ = some (.int .i64 (ss.getD j s0).1) ∧ w'.cell? ⟨g, j * 4 + 1, none⟩ = some (.int .i64 (ss.getD j s0).2.1) ∧ w'.cell? ⟨g, j * 4 + 2, none⟩ = some (.float .f32 p) ∧ w'.cell? ⟨g, j * 4 + 3, none⟩ = some (.float .f32 q) ∧ FV .f32 p (ss.getD j s0).2.2.1 ∧ FV .f32 q (ss.getD j s0).2.2.2)) (fun i _ => len - (intOf i).toNat)
  case atStart => exact ⟨0, Nat.zero_le _, rfl, HST.out, fun j hj => absurd hj (by omega)⟩
  case round =>
    obtain ⟨k, hk, rfl, hA⟩ := hrel
    by_cases hlt : k < len
    · obtain ⟨⟨hB, hgs, hce, hfz⟩, hdone⟩ := hA.out
      have h' := h.below (HG.out ▸ hB)
      obtain ⟨b, o, rfl, hcell⟩ := h'.some (by omega)
      obtain ⟨p, q, hp0, hp1, hp, hq, fp, fq⟩ := hcell k hlt
      obtain ⟨ua, hua⟩ : ∃ ua, ua = (ss.getD k s0).1 := ⟨_, rfl⟩
      obtain ⟨ub, hub⟩ : ∃ ub, ub = (ss.getD k s0).2.1 := ⟨_, rfl⟩
      rw [← hua] at hp0
      rw [← hub] at hp1
      have HU := Lib.hid (And.intro hua hub)
      have HFP := Lib.hid (And.intro fp fq)
      clear hua hub fp fq
      have hk0 : (0 : Int) ≤ (k : Int) := by omega
      have hk1 : (k : Int) < (len : Int) := by omega
      have hf0 := hfz (k * 4)
      have hf1 := hfz (k * 4 + 1)
      have hf2 := hfz (k * 4 + 2)
      have hf3 := hfz (k * 4 + 3)
      obtain ⟨v0, hv0⟩ := hce (k * 4) (by omega)
      obtain ⟨v1, hv1⟩ := hce (k * 4 + 1) (by omega)
      obtain ⟨v2, hv2⟩ := hce (k * 4 + 2) (by omega)
      obtain ⟨v3, hv3⟩ := hce (k * 4 + 3) (by omega)
      have HD := Lib.hid hdone
      have HC := Lib.hid hce
      have HF := Lib.hid hfz
      have HB := Lib.hid hB
      clear hA hcell h' hdone hce hfz hB h
      go_wp2_with fail
      refine (laws_toSpring _ _ _ _ _).mono ?_
      rintro e w1 ⟨rfl, hB1⟩
      have hv0' : w1.cell? ⟨g, k * 4, none⟩ = some v0 := by rw [hB1.cell (p := ⟨g, k * 4, none⟩) hgs]; exact hv0
      have hv1' : w1.cell? ⟨g, k * 4 + 1, none⟩ = some v1 := by rw [hB1.cell (p := ⟨g, k * 4 + 1, none⟩) hgs]; exact hv1
      have hv2' : w1.cell? ⟨g, k * 4 + 2, none⟩ = some v2 := by rw [hB1.cell (p := ⟨g, k * 4 + 2, none⟩) hgs]; exact hv2
      have hv3' : w1.cell? ⟨g, k * 4 + 3, none⟩ = some v3 := by rw [hB1.cell (p := ⟨g, k * 4 + 3, none⟩) hgs]; exact hv3
      have hf0' : w1.frozen? ⟨g, k * 4, none⟩ = false := by rw [hB1.frozen (p := ⟨g, k * 4, none⟩) hgs]; exact hf0
      have hf1' : w1.frozen? ⟨g, k * 4 + 1, none⟩ = false := by rw [hB1.frozen (p := ⟨g, k * 4 + 1, none⟩) hgs]; exact hf1
      have hf2' : w1.frozen? ⟨g, k * 4 + 2, none⟩ = false := by rw [hB1.frozen (p := ⟨g, k * 4 + 2, none⟩) hgs]; exact hf2
      have hf3' : w1.frozen? ⟨g, k * 4 + 3, none⟩ = false := by rw [hB1.frozen (p := ⟨g, k * 4 + 3, none⟩) hgs]; exact hf3
      have HB1 := Lib.hid hB1
      clear hB1
      go_wp2
      go_roundw
      case rel =>
        have hB1 := HB1.out
        obtain ⟨e0, e1, e2, e3, eo⟩ := set4k (u := .int .i64 ua) (v := .int .i64 ub) (t := .float .f32 p) (s := .float .f32 q) hv0' hv1' hv2' hv3'
        refine ⟨k + 1, by omega, by go_num, ⟨⟨((((HB.out.trans (hB1.mono (by omega))).setCell (Nat.le_refl _) _).setCell (Nat.le_refl _) _).setCell (Nat.le_refl _) _).setCell (Nat.le_refl _) _, by simp <;> (have := hB1.size; omega), fun j hj => ?_, fun j => ?_⟩, fun j hj => ?_⟩⟩
        · by_cases h0 : j = k * 4
          · subst h0; exact ⟨_, e0⟩
          · by_cases h1 : j = k * 4 + 1
            · subst h1; exact ⟨_, e1⟩
            · by_cases h2 : j = k * 4 + 2
              · subst h2; exact ⟨_, e2⟩
              · by_cases h3 : j = k * 4 + 3
                · subst h3; exact ⟨_, e3⟩
                · obtain ⟨v, hv⟩ := HC.out j hj
                  exact ⟨v, by rw [eo j h0 h1 h2 h3, hB1.cell (p := ⟨g, j, none⟩) hgs]; exact hv⟩
        · simp; rw [hB1.frozen (p := ⟨g, j, none⟩) hgs]; exact HF.out j
        · by_cases hjk : j = k
          · subst hjk; rw [← HU.out.1, ← HU.out.2]; exact ⟨p, q, e0, e1, e2, e3, HFP.out.1, HFP.out.2⟩
          · obtain ⟨p', q', k0, k1, k2, k3, hv⟩ := HD.out j (by omega)
            exact ⟨p', q', by rw [eo _ (by omega) (by omega) (by omega) (by omega), hB1.cell (p := ⟨g, j * 4, none⟩) hgs]; exact k0, by rw [eo _ (by omega) (by omega) (by omega) (by omega), hB1.cell (p := ⟨g, j * 4 + 1, none⟩) hgs]; exact k1,
              by rw [eo _ (by omega) (by omega) (by omega) (by omega), hB1.cell (p := ⟨g, j * 4 + 2, none⟩) hgs]; exact k2, by rw [eo _ (by omega) (by omega) (by omega) (by omega), hB1.cell (p := ⟨g, j * 4 + 3, none⟩) hgs]; exact k3, hv⟩
      case measure => simp [intOf]; omega
    · obtain rfl : k = len := by omega
      obtain ⟨⟨hB, hgs, hce, hfz⟩, hdone⟩ := hA.out
      have hfin : IsSs wr (some ⟨g, 0, none⟩) k k ss := by
        refine ⟨hzl, Nat.le_refl _, by unfold maxLen; omega, HWF.out, by simp, fun x hx i hi => ?_⟩
        cases hx
        obtain ⟨p, q, k0, k1, k2, k3, hv⟩ := hdone i hi
        exact ⟨p, q, by rw [addr_add', Nat.zero_add]; exact k0, by rw [addr_add', Nat.zero_add]; exact k1, by rw [addr_add', Nat.zero_add]; exact k2, by rw [addr_add', Nat.zero_add]; exact k3, hv⟩
      have HF := Lib.hid hfin
      have HB := Lib.hid hB
      have HFZ := Lib.hid hfz
      clear hA hB hce hfz hdone hfin h
      go_wp2
      go_ret
      exact ⟨rfl, HF.out, HB.out, hgs, HFZ.out⟩
theorem laws_toSpringS (a : Option Addr) (len cap : Nat) (ss : List SC) (w : World) (h : IsSs w a len cap ss) (hlen : len ≤ 1048576) :
    Calls Try.prog 110 #[.slice a len cap] w fun e w' => e = .returned (.slice (some ⟨w.heap.size, 0, none⟩) len len) ∧ IsSs w' (some ⟨w.heap.size, 0, none⟩) len len ss ∧ Below w.heap.size w w' ∧ w.heap.size < w'.heap.size :=
  (laws_toSpringSO a len cap ss w h hlen).mono fun _ _ h => ⟨h.1, h.2.1, h.2.2.1, h.2.2.2.1⟩
theorem _root_.Go.Proofs.Ytkdoibglgkcbkaa.Fk.IsSs.set {w : World} {a : Addr} {v : Value} {b len cap : Nat} {o : Nat} {ss : List SC} (h : IsSs w (some ⟨b, o, none⟩) len cap ss) (hne : a.block ≠ b) : IsSs (w.setCell a v) (some ⟨b, o, none⟩) len cap ss := by
  obtain ⟨h1, h2, h3, h4, h5, h6⟩ := h
  have ne : ∀ j, a ≠ ⟨b, j, none⟩ := fun j h => hne (by rw [h])
  refine ⟨h1, h2, h3, h4, h5, fun x hx i hi => ?_⟩
  obtain ⟨p, q, k0, k1, k2, k3, hv⟩ := h6 x hx i hi
  cases hx
  rw [addr_add'] at k0 k1 k2 k3
  refine ⟨p, q, ?_, ?_, ?_, ?_, hv⟩
  · rw [addr_add', World.cell?_setCell_other _ _ _ _ (ne _)]; exact k0
  · rw [addr_add', World.cell?_setCell_other _ _ _ _ (ne _)]; exact k1
  · rw [addr_add', World.cell?_setCell_other _ _ _ _ (ne _)]; exact k2
  · rw [addr_add', World.cell?_setCell_other _ _ _ _ (ne _)]; exact k3
set_option maxHeartbeats 1000000 in
theorem laws_eqSpringS (a b : Option Addr) (len cap cap' : Nat) (ss : List SC) (w : World) (ha : IsSs w a len cap ss) (hb : IsSs w b len cap' ss) :
    Calls Try.prog 120 #[.slice a len cap, .slice b len cap'] w fun e w' => e = .returned (.bool true) ∧ Below w.heap.size w w' := by
  have hm : len ≤ 9223372036854775807 := by have h1 := ha.2.1; have h2 := ha.2.2.1; unfold maxLen at h2; omega
  have uv := Try.underlying125
  have hzl := ha.1
  go_enter Try.func120, Try.ntmps120
  go_wp2
  go_loopw [5] (fun i w' => ∃ k : Nat, k ≤ len ∧ i = .int .i64 k ∧ Below w.heap.size w w') (fun i _ => len - (intOf i).toNat)
  case atStart => exact ⟨0, Nat.zero_le _, rfl, Below.refl _ _⟩
  case round =>
    obtain ⟨k, hk, rfl, hB⟩ := hrel
    by_cases hlt : k < len
    · obtain ⟨b1, o1, rfl, hcell1⟩ := (ha.below hB).some (by omega)
      obtain ⟨b2, o2, rfl, hcell2⟩ := (hb.below hB).some (by omega)
      obtain ⟨p1, q1, c11, c12, c13, c14, f11, f12⟩ := hcell1 k hlt
      obtain ⟨p2, q2, c21, c22, c23, c24, f21, f22⟩ := hcell2 k hlt
      generalize ss.getD k s0 = z at *
      have HB := Lib.hid hB
      clear hcell1 hcell2 hzl ha hb hB
      have hk0 : (0 : Int) ≤ (k : Int) := by omega
      have hk1 : (k : Int) < (len : Int) := by omega
      go_wp2_with fail
      refine Reg.wp_region_mix (C := fun w' => (w'.cell? ⟨b1, o1 + k * 4, none⟩ = some (.int .i64 z.1) ∧ w'.cell? ⟨b1, o1 + k * 4 + 1, none⟩ = some (.int .i64 z.2.1) ∧ w'.cell? ⟨b1, o1 + k * 4 + 2, none⟩ = some (.float .f32 p1) ∧ w'.cell? ⟨b1, o1 + k * 4 + 3, none⟩ = some (.float .f32 q1) ∧ w'.cell? ⟨b2, o2 + k * 4, none⟩ = some (.int .i64 z.1) ∧ w'.cell? ⟨b2, o2 + k * 4 + 1, none⟩ = some (.int .i64 z.2.1) ∧ w'.cell? ⟨b2, o2 + k * 4 + 2, none⟩ = some (.float .f32 p2) ∧ w'.cell? ⟨b2, o2 + k * 4 + 3, none⟩ = some (.float .f32 q2)) ∧ Below wr.heap.size wr w') (G := fun _ _ => True) (R := fun i v _ => match i with | 0 => v = .slice (some ⟨b1, o1, none⟩) len cap | 1 => v = .int .i64 k | 2 => v = .pointer (some ⟨b1, o1 + k * 4, none⟩) | 3 => v = sv z.1 z.2.1 p1 q1 | 4 => v = .slice (some ⟨b2, o2, none⟩) len cap' | 5 => v = .int .i64 k | 6 => v = .pointer (some ⟨b2, o2 + k * 4, none⟩) | 7 => v = sv z.1 z.2.1 p2 q2 | 8 => v = .bool true | 9 => v = .bool false | _ => True) (T := fun _ _ _ => True) [false, false, false, false, false, false, false, false, false, false, false, false, false, false, false, false, false, true, true, true, true, true, true, true, true, true, true]
        (by kernel_rfl) (by kernel_rfl) (by kernel_rfl) (fun _ _ _ _ _ _ h => h) ⟨⟨c11, c12, c13, c14, c21, c22, c23, c24⟩, below_drewN (Below.refl _ _) 1⟩ ?_ ?_
      · refine ⟨Reg.Obl.mk ?_, Reg.Obl.mk ?_, Reg.Obl.mk ?_, Reg.Obl.mk ?_, Reg.Obl.mk ?_, Reg.Obl.mk ?_, Reg.Obl.mk ?_, Reg.Obl.mk ?_, Reg.Obl.mk ?_, Reg.Obl.mk ?_, trivial⟩
        · rintro a w1 ⟨⟨d11, d12, d13, d14, d21, d22, d23, d24⟩, hB⟩ hx hd K hK
          have t0 : a.tmps[0]?.getD undef = .slice (some ⟨b1, o1, none⟩) len cap := Reg.slot_val (hx 0 (by kernel_rfl))
          go_simp
          exact hK _ _ (fun _ => rfl) (fun h => by cases h) ⟨⟨d11, d12, d13, d14, d21, d22, d23, d24⟩, hB⟩ trivial
        · rintro a w1 ⟨⟨d11, d12, d13, d14, d21, d22, d23, d24⟩, hB⟩ hx hd K hK
          have t5 : a.tmps[5]?.getD undef = .int .i64 k := Reg.slot_val (hx 5 (by kernel_rfl))
          go_simp
          exact hK _ _ (fun _ => rfl) (fun h => by cases h) ⟨⟨d11, d12, d13, d14, d21, d22, d23, d24⟩, hB⟩ trivial
        · rintro a w1 ⟨⟨d11, d12, d13, d14, d21, d22, d23, d24⟩, hB⟩ hx hd K hK
          have t17 : a.tmps[17]?.getD undef = .slice (some ⟨b1, o1, none⟩) len cap := Reg.slot_val (hd 0 (by kernel_rfl) 17 rfl)
          have t18 : a.tmps[18]?.getD undef = .int .i64 k := Reg.slot_val (hd 1 (by kernel_rfl) 18 rfl)
          go_simp
          exact hK _ _ (fun _ => rfl) (fun h => by cases h) ⟨⟨d11, d12, d13, d14, d21, d22, d23, d24⟩, hB⟩ trivial
        · rintro a w1 ⟨⟨d11, d12, d13, d14, d21, d22, d23, d24⟩, hB⟩ hx hd K hK
          have t19 : a.tmps[19]?.getD undef = .pointer (some ⟨b1, o1 + k * 4, none⟩) := Reg.slot_val (hd 2 (by kernel_rfl) 19 rfl)
          go_simp
          exact hK _ _ (fun _ => rfl) (fun h => by cases h) ⟨⟨d11, d12, d13, d14, d21, d22, d23, d24⟩, hB⟩ trivial
        · rintro a w1 ⟨⟨d11, d12, d13, d14, d21, d22, d23, d24⟩, hB⟩ hx hd K hK
          have t1 : a.tmps[1]?.getD undef = .slice (some ⟨b2, o2, none⟩) len cap' := Reg.slot_val (hx 1 (by kernel_rfl))
          go_simp
          exact hK _ _ (fun _ => rfl) (fun h => by cases h) ⟨⟨d11, d12, d13, d14, d21, d22, d23, d24⟩, hB⟩ trivial
        · rintro a w1 ⟨⟨d11, d12, d13, d14, d21, d22, d23, d24⟩, hB⟩ hx hd K hK
          have t5 : a.tmps[5]?.getD undef = .int .i64 k := Reg.slot_val (hx 5 (by kernel_rfl))
          go_simp
          exact hK _ _ (fun _ => rfl) (fun h => by cases h) ⟨⟨d11, d12, d13, d14, d21, d22, d23, d24⟩, hB⟩ trivial
        · rintro a w1 ⟨⟨d11, d12, d13, d14, d21, d22, d23, d24⟩, hB⟩ hx hd K hK
          have t21 : a.tmps[21]?.getD undef = .slice (some ⟨b2, o2, none⟩) len cap' := Reg.slot_val (hd 4 (by kernel_rfl) 21 rfl)
          have t22 : a.tmps[22]?.getD undef = .int .i64 k := Reg.slot_val (hd 5 (by kernel_rfl) 22 rfl)
          go_simp
          exact hK _ _ (fun _ => rfl) (fun h => by cases h) ⟨⟨d11, d12, d13, d14, d21, d22, d23, d24⟩, hB⟩ trivial
        · rintro a w1 ⟨⟨d11, d12, d13, d14, d21, d22, d23, d24⟩, hB⟩ hx hd K hK
          have t23 : a.tmps[23]?.getD undef = .pointer (some ⟨b2, o2 + k * 4, none⟩) := Reg.slot_val (hd 6 (by kernel_rfl) 23 rfl)
          go_simp
          exact hK _ _ (fun _ => rfl) (fun h => by cases h) ⟨⟨d11, d12, d13, d14, d21, d22, d23, d24⟩, hB⟩ trivial
        · rintro a w1 ⟨⟨d11, d12, d13, d14, d21, d22, d23, d24⟩, hB⟩ hx hd K hK
          have t20 : a.tmps[20]?.getD undef = sv z.1 z.2.1 p1 q1 := Reg.slot_val (hd 3 (by kernel_rfl) 20 rfl)
          have t24 : a.tmps[24]?.getD undef = sv z.1 z.2.1 p2 q2 := Reg.slot_val (hd 7 (by kernel_rfl) 24 rfl)
          go_simp
          refine (laws_eqSpring _ _ _ _ _ _ _ _ _ f11 f12 f21 f22).mono ?_
          rintro en w2 ⟨rfl, hB2⟩
          exact hK _ _ (fun _ => rfl) (fun h => by cases h) ⟨⟨cell_below hB2 d11, cell_below hB2 d12, cell_below hB2 d13, cell_below hB2 d14, cell_below hB2 d21, cell_below hB2 d22, cell_below hB2 d23, cell_below hB2 d24⟩, hB.trans (hB2.mono hB.size)⟩ trivial
        · rintro a w1 ⟨⟨d11, d12, d13, d14, d21, d22, d23, d24⟩, hB⟩ hx hd K hK
          have t25 : a.tmps[25]?.getD undef = .bool true := Reg.slot_val (hd 8 (by kernel_rfl) 25 rfl)
          go_simp
          exact hK _ _ (fun _ => rfl) (fun h => by cases h) ⟨⟨d11, d12, d13, d14, d21, d22, d23, d24⟩, hB⟩ trivial
      · rintro f w1 ⟨_, hB⟩ hd hT
        have g26 : f 26 = .bool false := hd 9 26 rfl
        simp only [Reg.mixL, g26]
        have HB1 := Lib.hid hB
        clear hB
        go_wp2
        go_roundw
        case rel => exact ⟨k + 1, by omega, by go_num, HB.out.trans (HB1.out.mono HB.out.size)⟩
        case measure => simp [intOf]; omega
    · have HB := Lib.hid hB
      clear hB
      go_wp2
      go_ret
      exact ⟨rfl, HB.out⟩
end Go.Proofs.Ytkdoibglgkcbkaa


/-
Two meshes that hold the same are the same. Conditions: none.
-/
namespace Go.Proofs.Ytkdoibglgkcbkaa
open Go Fk Go.RowKit
set_option linter.unusedVariables false
set_option maxRecDepth 8000

set_option maxHeartbeats 1000000 in
theorem laws_eqMesh (pa ta pa' ta' : Option Addr) (pl pc tl tc pc' tc' : Nat) (cs : List C3) (ts : List (List Int)) (w : World) (hp : IsVs w pa pl pc cs) (ht : IsTs w ta tl tc ts) (hp' : IsVs w pa' pl pc' cs) (ht' : IsTs w ta' tl tc' ts) :
    Calls Try.prog 27 #[.agg #[.slice pa pl pc, .slice ta tl tc], .agg #[.slice pa' pl pc', .slice ta' tl tc']] w fun e w' => e = .returned (.bool true) ∧ Below w.heap.size w w' := by
  have ui := Try.underlying41
  have hB0 : Below w.heap.size w ((w.alloc (.cells #[.slice pa pl pc, .slice ta tl tc] 41)).alloc (.cells #[.slice pa' pl pc', .slice ta' tl tc'] 41)) := ((Below.refl _ _).alloc (Nat.le_refl _) _).alloc (by simp) _
  have c1 : ((w.alloc (.cells #[.slice pa pl pc, .slice ta tl tc] 41)).alloc (.cells #[.slice pa' pl pc', .slice ta' tl tc'] 41)).cell? ⟨w.heap.size, 1, none⟩ = some (.slice ta tl tc) := by go_simp
  have c2 : ((w.alloc (.cells #[.slice pa pl pc, .slice ta tl tc] 41)).alloc (.cells #[.slice pa' pl pc', .slice ta' tl tc'] 41)).cell? ⟨w.heap.size + 1, 1, none⟩ = some (.slice ta' tl tc') := by go_simp
  have hsz : ((w.alloc (.cells #[.slice pa pl pc, .slice ta tl tc] 41)).alloc (.cells #[.slice pa' pl pc', .slice ta' tl tc'] 41)).heap.size = w.heap.size + 1 + 1 := by simp
  have P1 := Lib.hid (hp.below hB0)
  have P2 := Lib.hid (hp'.below hB0)
  have T1 := Lib.hid ht
  have T2 := Lib.hid ht'
  have HB0 := Lib.hid hB0
  have HSZ := Lib.hid hsz
  have C1 := Lib.hid c1
  have C2 := Lib.hid c2
  clear hp hp' ht ht' hB0 hsz c1 c2
  go_enter Try.func27, Try.ntmps27
  go_wp2_with fail
  refine (laws_eqVectorS _ _ _ _ _ _ _ P1.out P2.out).mono ?_
  rintro e w1 ⟨rfl, hB1⟩
  have hsz := HSZ.out
  have lt0 : w.heap.size < ((w.alloc (.cells #[.slice pa pl pc, .slice ta tl tc] 41)).alloc (.cells #[.slice pa' pl pc', .slice ta' tl tc'] 41)).heap.size := by rw [hsz]; omega
  have lt1 : w.heap.size + 1 < ((w.alloc (.cells #[.slice pa pl pc, .slice ta tl tc] 41)).alloc (.cells #[.slice pa' pl pc', .slice ta' tl tc'] 41)).heap.size := by rw [hsz]; omega
  have d1 : w1.cell? ⟨w.heap.size, 1, none⟩ = some (.slice ta tl tc) := by rw [hB1.cell (p := ⟨w.heap.size, 1, none⟩) lt0]; exact C1.out
  have d2 : w1.cell? ⟨w.heap.size + 1, 1, none⟩ = some (.slice ta' tl tc') := by rw [hB1.cell (p := ⟨w.heap.size + 1, 1, none⟩) lt1]; exact C2.out
  have hB : Below w.heap.size w w1 := HB0.out.trans (hB1.mono (by rw [hsz]; omega))
  have HB := Lib.hid hB
  clear hB1 hsz lt0 lt1 P1 P2 HB0 HSZ C1 C2 hB
  go_wp2_with fail
  refine (laws_eqInt64SS _ _ _ _ _ _ _ (T1.out.below HB.out) (T2.out.below HB.out)).mono ?_
  rintro e w2 ⟨rfl, n, hw⟩
  have HW := Lib.hid hw
  clear hw
  go_wp2
  go_ret
  exact ⟨rfl, by rw [HW.out]; exact below_drewN HB.out _⟩
end Go.Proofs.Ytkdoibglgkcbkaa

/-
Texts in one: what HoldMesh stands on, part 6. Conditions: those of each.
-/
import Derived.Test.YtmbekamnogbgaaaKHoldMesh5

/-
Copies of lists of vectors and of meshes: what the law's own functions return. Conditions: at most 2^20 of each.
-/
namespace Go.Proofs.Ytmbekamnogbgaaa
open Go Fk Go.RowKit
set_option linter.unusedVariables false
set_option maxRecDepth 8000

theorem infoV : (Try.prog.info? 34).map (fun i => (i.zero, i.size, i.bytes)) = some (some (.agg #[.float .f32 0, .float .f32 0, .float .f32 0]), 3, 12) := by kernel_rfl
theorem made_cell3 (w : World) (z : Array Value) (n i : Nat) (t : TypeId) (hi : i < n) : ∃ v, (w.alloc (.cells (madeCells z n) t)).cell? ⟨w.heap.size, i, none⟩ = some v := by
  have : (madeCells z n)[i]? = some (z[i % z.size]!) := by unfold madeCells; simp [hi]
  exact ⟨z[i % z.size]!, by simp [this]⟩
theorem set3k {w : World} {n o : Nat} {u v t u0 v0 t0 : Value} (h0 : w.cell? ⟨n, o, none⟩ = some u0) (h1 : w.cell? ⟨n, o + 1, none⟩ = some v0) (h2 : w.cell? ⟨n, o + 2, none⟩ = some t0) :
    (((w.setCell ⟨n, o, none⟩ u).setCell ⟨n, o + 1, none⟩ v).setCell ⟨n, o + 2, none⟩ t).cell? ⟨n, o, none⟩ = some u ∧ (((w.setCell ⟨n, o, none⟩ u).setCell ⟨n, o + 1, none⟩ v).setCell ⟨n, o + 2, none⟩ t).cell? ⟨n, o + 1, none⟩ = some v ∧ (((w.setCell ⟨n, o, none⟩ u).setCell ⟨n, o + 1, none⟩ v).setCell ⟨n, o + 2, none⟩ t).cell? ⟨n, o + 2, none⟩ = some t ∧
    ∀ j, j ≠ o → j ≠ o + 1 → j ≠ o + 2 → (((w.setCell ⟨n, o, none⟩ u).setCell ⟨n, o + 1, none⟩ v).setCell ⟨n, o + 2, none⟩ t).cell? ⟨n, j, none⟩ = w.cell? ⟨n, j, none⟩ := by
  have a0 := World.cell?_setCell_same w ⟨n, o, none⟩ u h0
  have a1 : (w.setCell ⟨n, o, none⟩ u).cell? ⟨n, o + 1, none⟩ = some v0 := by rw [World.cell?_setCell_other _ _ _ _ (by simp)]; exact h1
  have a2 : (w.setCell ⟨n, o, none⟩ u).cell? ⟨n, o + 2, none⟩ = some t0 := by rw [World.cell?_setCell_other _ _ _ _ (by simp)]; exact h2
  have b1 := World.cell?_setCell_same (w.setCell ⟨n, o, none⟩ u) ⟨n, o + 1, none⟩ v a1
  have b2 : ((w.setCell ⟨n, o, none⟩ u).setCell ⟨n, o + 1, none⟩ v).cell? ⟨n, o + 2, none⟩ = some t0 := by rw [World.cell?_setCell_other _ _ _ _ (by simp)]; exact a2
  refine ⟨?_, ?_, World.cell?_setCell_same _ _ _ b2, fun j j0 j1 j2 => ?_⟩
  · rw [World.cell?_setCell_other _ _ _ _ (by simp), World.cell?_setCell_other _ _ _ _ (by simp)]; exact a0
  · rw [World.cell?_setCell_other _ _ _ _ (by simp)]; exact b1
  · rw [World.cell?_setCell_other _ _ _ _ (by simp <;> omega), World.cell?_setCell_other _ _ _ _ (by simp <;> omega), World.cell?_setCell_other _ _ _ _ (by simp <;> omega)]
set_option maxHeartbeats 400000 in
theorem laws_toVectorS (a : Option Addr) (len cap : Nat) (cs : List C3) (w : World) (h : IsVs w a len cap cs) (hlen : len ≤ 1048576) :
    Calls Try.prog 28 #[.slice a len cap] w fun e w' => e = .returned (.slice (some ⟨w.heap.size, 0, none⟩) len len) ∧ IsVs w' (some ⟨w.heap.size, 0, none⟩) len len cs ∧ Below w.heap.size w w' ∧ w.heap.size < w'.heap.size := by
  have uv := Try.underlying34
  have ul := Try.underlying46
  have u := Try.underlying31
  obtain ⟨i0, hi, hz0, hz1, hz2⟩ := info_parts infoV
  have hzl := h.1
  obtain ⟨g, hg⟩ : ∃ g, g = w.heap.size := ⟨_, rfl⟩
  have hmk : (Instr.makeSlice 27 (.int .i64 len) (.int .i64 len)).run Try.prog w = .ok (.slice (some ⟨g, 0, none⟩) len len) (w.alloc (.cells (madeCells #[.float .f32 0, .float .f32 0, .float .f32 0] (len * 3)) 34)) := by
    have := run_make (P := Try.prog) w 27 34 i0 (.agg #[.float .f32 0, .float .f32 0, .float .f32 0]) Try.underlying27 hi hz0 .i64 .i64 len len (by omega) (Int.le_refl _) (by rw [hz2]; omega) (by omega)
    rw [this, hz1, hg]; simp; rfl
  have hstart : Below w.heap.size w (w.alloc (.cells (madeCells #[.float .f32 0, .float .f32 0, .float .f32 0] (len * 3)) 34)) ∧ g < (w.alloc (.cells (madeCells #[.float .f32 0, .float .f32 0, .float .f32 0] (len * 3)) 34)).heap.size ∧
      (∀ j, j < len * 3 → ∃ v, (w.alloc (.cells (madeCells #[.float .f32 0, .float .f32 0, .float .f32 0] (len * 3)) 34)).cell? ⟨g, j, none⟩ = some v) ∧ (∀ j, (w.alloc (.cells (madeCells #[.float .f32 0, .float .f32 0, .float .f32 0] (len * 3)) 34)).frozen? ⟨g, j, none⟩ = false) := by
    subst hg
    exact ⟨(Below.refl _ _).alloc (Nat.le_refl _) _, by simp, fun j hj => made_cell3 w _ (len * 3) j _ hj, fun j => by simp⟩
  rw [← hg] at hstart ⊢
  have HST := Lib.hid hstart
  have HG := Lib.hid hg
  clear hstart hg
  go_enter Try.func28, Try.ntmps28
  go_wp2
  generalize hw0 : w.alloc (.cells (madeCells #[.float .f32 0, .float .f32 0, .float .f32 0] (len * 3)) 34) = w0 at HST ⊢
  go_loopw [4] (fun i w' => ∃ k : Nat, k ≤ len ∧ i = .int .i64 k ∧ Aside ((Below g w w' ∧ g < w'.heap.size ∧ (∀ j, j < len * 3 → ∃ v, w'.cell? ⟨g, j, none⟩ = some v) ∧ (∀ j, w'.frozen? ⟨g, j, none⟩ = false)) ∧
      ∀ j, j < k → ∃ p q r, w'.cell? ⟨g, j * 3, none⟩ = some (.float .f32 p) ∧ w'.cell? ⟨g, j * 3 + 1, none⟩ = some (.float .f32 q) ∧ w'.cell? ⟨g, j * 3 + 2, none⟩ = some (.float .f32 r) ∧ FV .f32 p (cs.getD j c0).1 ∧ FV .f32 q (cs.getD j c0).2.1 ∧ FV .f32 r (cs.getD j c0).2.2)) (fun i _ => len - (intOf i).toNat)
  case atStart => exact ⟨0, Nat.zero_le _, rfl, HST.out, fun j hj => absurd hj (by omega)⟩
  case round =>
    obtain ⟨k, hk, rfl, hA⟩ := hrel
    by_cases hlt : k < len
    · obtain ⟨⟨hB, hgs, hce, hfz⟩, hdone⟩ := hA.out
      have h' := h.below (HG.out ▸ hB)
      obtain ⟨b, o, rfl, hcell⟩ := h'.some (by omega)
      obtain ⟨p, q, r, hp, hq, hr, fp, fq, fr⟩ := hcell k hlt
      have hk0 : (0 : Int) ≤ (k : Int) := by omega
      have hk1 : (k : Int) < (len : Int) := by omega
      have hf0 := hfz (k * 3)
      have hf1 := hfz (k * 3 + 1)
      have hf2 := hfz (k * 3 + 2)
      obtain ⟨v0, hv0⟩ := hce (k * 3) (by omega)
      obtain ⟨v1, hv1⟩ := hce (k * 3 + 1) (by omega)
      obtain ⟨v2, hv2⟩ := hce (k * 3 + 2) (by omega)
      have HD := Lib.hid hdone
      have HC := Lib.hid hce
      have HF := Lib.hid hfz
      have HB := Lib.hid hB
      clear hA hcell h' hdone hce hfz hB h
      go_wp2_with fail
      refine (laws_toVector _ _ _ _).mono ?_
      rintro e w1 ⟨rfl, hB1⟩
      have hv0' : w1.cell? ⟨g, k * 3, none⟩ = some v0 := by rw [hB1.cell (p := ⟨g, k * 3, none⟩) hgs]; exact hv0
      have hv1' : w1.cell? ⟨g, k * 3 + 1, none⟩ = some v1 := by rw [hB1.cell (p := ⟨g, k * 3 + 1, none⟩) hgs]; exact hv1
      have hv2' : w1.cell? ⟨g, k * 3 + 2, none⟩ = some v2 := by rw [hB1.cell (p := ⟨g, k * 3 + 2, none⟩) hgs]; exact hv2
      have hf0' : w1.frozen? ⟨g, k * 3, none⟩ = false := by rw [hB1.frozen (p := ⟨g, k * 3, none⟩) hgs]; exact hf0
      have hf1' : w1.frozen? ⟨g, k * 3 + 1, none⟩ = false := by rw [hB1.frozen (p := ⟨g, k * 3 + 1, none⟩) hgs]; exact hf1
      have hf2' : w1.frozen? ⟨g, k * 3 + 2, none⟩ = false := by rw [hB1.frozen (p := ⟨g, k * 3 + 2, none⟩) hgs]; exact hf2
      have HB1 := Lib.hid hB1
      clear hB1
      go_wp2
      go_roundw
      case rel =>
        have hB1 := HB1.out
        obtain ⟨e0, e1, e2, eo⟩ := set3k (u := .float .f32 p) (v := .float .f32 q) (t := .float .f32 r) hv0' hv1' hv2'
        refine ⟨k + 1, by omega, by go_num, ⟨⟨(((HB.out.trans (hB1.mono (by omega))).setCell (Nat.le_refl _) _).setCell (Nat.le_refl _) _).setCell (Nat.le_refl _) _, by simp <;> (have := hB1.size; omega), fun j hj => ?_, fun j => ?_⟩, fun j hj => ?_⟩⟩
        · by_cases h0 : j = k * 3
          · subst h0; exact ⟨_, e0⟩
          · by_cases h1 : j = k * 3 + 1
            · subst h1; exact ⟨_, e1⟩
            · by_cases h2 : j = k * 3 + 2
              · subst h2; exact ⟨_, e2⟩
              · obtain ⟨v, hv⟩ := HC.out j hj
                exact ⟨v, by rw [eo j h0 h1 h2, hB1.cell (p := ⟨g, j, none⟩) hgs]; exact hv⟩
        · simp; rw [hB1.frozen (p := ⟨g, j, none⟩) hgs]; exact HF.out j
        · by_cases hjk : j = k
          · subst hjk; exact ⟨p, q, r, e0, e1, e2, fp, fq, fr⟩
          · obtain ⟨p', q', r', k0, k1, k2, hv⟩ := HD.out j (by omega)
            exact ⟨p', q', r', by rw [eo _ (by omega) (by omega) (by omega), hB1.cell (p := ⟨g, j * 3, none⟩) hgs]; exact k0, by rw [eo _ (by omega) (by omega) (by omega), hB1.cell (p := ⟨g, j * 3 + 1, none⟩) hgs]; exact k1,
              by rw [eo _ (by omega) (by omega) (by omega), hB1.cell (p := ⟨g, j * 3 + 2, none⟩) hgs]; exact k2, hv⟩
      case measure => simp [intOf]; omega
    · obtain rfl : k = len := by omega
      obtain ⟨⟨hB, hgs, hce, hfz⟩, hdone⟩ := hA.out
      have hfin : IsVs wr (some ⟨g, 0, none⟩) k k cs := by
        refine ⟨hzl, Nat.le_refl _, by unfold maxLen; omega, by simp, fun x hx i hi => ?_⟩
        cases hx
        obtain ⟨p, q, r, k0, k1, k2, hv⟩ := hdone i hi
        exact ⟨p, q, r, by rw [addr_add', Nat.zero_add]; exact k0, by rw [addr_add', Nat.zero_add]; exact k1, by rw [addr_add', Nat.zero_add]; exact k2, hv⟩
      have HF := Lib.hid hfin
      have HB := Lib.hid hB
      clear hA hB hce hfz hdone hfin h
      go_wp2
      go_ret
      exact ⟨rfl, HF.out, HB.out, hgs⟩
theorem _root_.Go.Proofs.Ytmbekamnogbgaaa.Fk.IsVs.set {w : World} {a : Addr} {v : Value} {b len cap : Nat} {o : Nat} {cs : List C3} (h : IsVs w (some ⟨b, o, none⟩) len cap cs) (hne : a.block ≠ b) : IsVs (w.setCell a v) (some ⟨b, o, none⟩) len cap cs := by
  obtain ⟨h1, h2, h3, h5, h6⟩ := h
  have ne : ∀ j, a ≠ ⟨b, j, none⟩ := fun j h => hne (by rw [h])
  refine ⟨h1, h2, h3, h5, fun x hx i hi => ?_⟩
  obtain ⟨p, q, r, k0, k1, k2, hv⟩ := h6 x hx i hi
  cases hx
  rw [addr_add'] at k0 k1 k2
  refine ⟨p, q, r, ?_, ?_, ?_, hv⟩
  · rw [addr_add', World.cell?_setCell_other _ _ _ _ (ne _)]; exact k0
  · rw [addr_add', World.cell?_setCell_other _ _ _ _ (ne _)]; exact k1
  · rw [addr_add', World.cell?_setCell_other _ _ _ _ (ne _)]; exact k2
theorem _root_.Go.Proofs.Ytmbekamnogbgaaa.Fk.IsIs.set' {w : World} {a : Addr} {v : Value} {b : Option Addr} {len cap : Nat} {zs : List Int} (h : IsIs w b len cap zs) (hne : ∀ x, b = some x → a.block ≠ x.block) : IsIs (w.setCell a v) b len cap zs := by
  obtain ⟨h1, h2, h3, h4, h5, h6⟩ := h
  refine ⟨h1, h2, h3, h4, h5, fun x hx i hi => ?_⟩
  have hc := h6 x hx i hi
  rw [World.cell?_setCell_other _ _ _ _ (by intro h; apply hne x hx; rw [h]; unfold Addr.add; split <;> rfl)]; exact hc
theorem _root_.Go.Proofs.Ytmbekamnogbgaaa.Fk.IsIs.setN {w : World} {a : Addr} {v u : Value} {b : Option Addr} {len cap : Nat} {zs : List Int} (h : IsIs w b len cap zs) (hu : w.cell? a = some u) (hn : ∀ z, u ≠ .int .i64 z) : IsIs (w.setCell a v) b len cap zs := by
  obtain ⟨h1, h2, h3, h4, h5, h6⟩ := h
  refine ⟨h1, h2, h3, h4, h5, fun x hx i hi => ?_⟩
  have hc := h6 x hx i hi
  rw [World.cell?_setCell_other _ _ _ _ (by intro h; rw [h, hc] at hu; exact hn _ (Option.some.inj hu).symm)]; exact hc
theorem _root_.Go.Proofs.Ytmbekamnogbgaaa.Fk.IsTs.setN {w : World} {a : Addr} {v u : Value} {b o : Nat} {len cap : Nat} {ts : List (List Int)} (h : IsTs w (some ⟨b, o, none⟩) len cap ts) (hne : a.block ≠ b) (hu : w.cell? a = some u) (hn : ∀ z, u ≠ .int .i64 z) : IsTs (w.setCell a v) (some ⟨b, o, none⟩) len cap ts := by
  obtain ⟨h1, h2, h3, h5, h6⟩ := h
  refine ⟨h1, h2, h3, h5, fun x hx i hi => ?_⟩
  obtain ⟨rb, n, c, hc, hi'⟩ := h6 x hx i hi
  cases hx
  refine ⟨rb, n, c, ?_, hi'.setN hu hn⟩
  rw [addr_add'] at hc ⊢
  rw [World.cell?_setCell_other _ _ _ _ (by intro h; apply hne; rw [h])]; exact hc
/-- A mesh that lies in memory. -/
def IsM (w : World) (v : Value) (cs : List C3) (ts : List (List Int)) : Prop :=
  ∃ pa pl pc ta tl tc, v = .agg #[.slice pa pl pc, .slice ta tl tc] ∧ IsVs w pa pl pc cs ∧ IsTs w ta tl tc ts
theorem IsM.below {W w : World} {v : Value} {cs : List C3} {ts : List (List Int)} (hb : Below W.heap.size W w) (h : IsM W v cs ts) : IsM w v cs ts := by
  obtain ⟨pa, pl, pc, ta, tl, tc, e, h1, h2⟩ := h
  exact ⟨pa, pl, pc, ta, tl, tc, e, h1.below hb, h2.below hb⟩
/-- Of a size that the law looks at. -/
def Small (cs : List C3) (ts : List (List Int)) : Prop := cs.length ≤ 1048576 ∧ ts.length ≤ 1048576 ∧ ∀ k, k < ts.length → (ts.getD k []).length ≤ 1048576
theorem laws_toMesh (pa ta : Option Addr) (pl pc tl tc : Nat) (cs : List C3) (ts : List (List Int)) (w : World) (hp : IsVs w pa pl pc cs) (ht : IsTs w ta tl tc ts) (hs : Small cs ts) :
    Calls Try.prog 17 #[.agg #[.slice pa pl pc, .slice ta tl tc]] w fun e w' => (∃ b b', e = .returned (.agg #[.slice (some ⟨b, 0, none⟩) pl pl, .slice (some ⟨b', 0, none⟩) tl tl]) ∧ w.heap.size ≤ b ∧ b < b' ∧ IsVs w' (some ⟨b, 0, none⟩) pl pl cs ∧ IsTs w' (some ⟨b', 0, none⟩) tl tl ts) ∧ Below w.heap.size w w' := by
  have hpl := hp.1
  have htl := ht.1
  obtain ⟨s1, s2, s3⟩ := hs
  rw [hpl] at s1
  rw [htl] at s2 s3
  have hT := Lib.hid ht
  have hP := Lib.hid hp
  have hS3 := Lib.hid s3
  clear hp ht s3 hpl htl
  have ul := Try.underlying25
  have ui := Try.underlying29
  go_enter Try.func17, Try.ntmps17
  go_wp2_with fail
  have hB0 : Below w.heap.size w (((w.alloc (.cells #[.slice pa pl pc, .slice ta tl tc] 25)).alloc (.cells #[.slice none 0 0, .slice none 0 0] 29)).alloc (.cells #[.slice none 0 0, .slice none 0 0] 29)) :=
    (((Below.refl _ _).alloc (Nat.le_refl _) _).alloc (by simp) _).alloc (by simp <;> omega) _
  have c1 : (((w.alloc (.cells #[.slice pa pl pc, .slice ta tl tc] 25)).alloc (.cells #[.slice none 0 0, .slice none 0 0] 29)).alloc (.cells #[.slice none 0 0, .slice none 0 0] 29)).cell? ⟨w.heap.size, 1, none⟩ = some (.slice ta tl tc) := by go_simp
  have cs0 : ∀ i, i < 2 → (((w.alloc (.cells #[.slice pa pl pc, .slice ta tl tc] 25)).alloc (.cells #[.slice none 0 0, .slice none 0 0] 29)).alloc (.cells #[.slice none 0 0, .slice none 0 0] 29)).cell? ⟨w.heap.size + 1 + 1, i, none⟩ = some (.slice none 0 0) := by
    intro i hi
    have : i = 0 ∨ i = 1 := by omega
    rcases this with rfl | rfl <;> go_simp
  have cr0 : ∀ i, i < 2 → (((w.alloc (.cells #[.slice pa pl pc, .slice ta tl tc] 25)).alloc (.cells #[.slice none 0 0, .slice none 0 0] 29)).alloc (.cells #[.slice none 0 0, .slice none 0 0] 29)).cell? ⟨w.heap.size + 1, i, none⟩ = some (.slice none 0 0) := by
    intro i hi
    have : i = 0 ∨ i = 1 := by omega
    rcases this with rfl | rfl <;> go_simp
  have fs0 : ∀ i, (((w.alloc (.cells #[.slice pa pl pc, .slice ta tl tc] 25)).alloc (.cells #[.slice none 0 0, .slice none 0 0] 29)).alloc (.cells #[.slice none 0 0, .slice none 0 0] 29)).frozen? ⟨w.heap.size + 1 + 1, i, none⟩ = false := by intro i; go_simp
  have fr0 : ∀ i, (((w.alloc (.cells #[.slice pa pl pc, .slice ta tl tc] 25)).alloc (.cells #[.slice none 0 0, .slice none 0 0] 29)).alloc (.cells #[.slice none 0 0, .slice none 0 0] 29)).frozen? ⟨w.heap.size + 1, i, none⟩ = false := by intro i; go_simp
  have hsz : (((w.alloc (.cells #[.slice pa pl pc, .slice ta tl tc] 25)).alloc (.cells #[.slice none 0 0, .slice none 0 0] 29)).alloc (.cells #[.slice none 0 0, .slice none 0 0] 29)).heap.size = w.heap.size + 1 + 1 + 1 := by simp
  generalize (((w.alloc (.cells #[.slice pa pl pc, .slice ta tl tc] 25)).alloc (.cells #[.slice none 0 0, .slice none 0 0] 29)).alloc (.cells #[.slice none 0 0, .slice none 0 0] 29)) = W at *
  obtain ⟨n, hn⟩ : ∃ n, n = w.heap.size := ⟨_, rfl⟩
  refine (laws_toVectorS _ _ _ _ _ (hP.out.below hB0) s1).mono ?_
  rintro e w1 ⟨rfl, hV, hB1, hS1⟩
  have lt0 : w.heap.size < W.heap.size := by rw [hsz]; omega
  have lt1 : w.heap.size + 1 < W.heap.size := by rw [hsz]; omega
  have lt2 : w.heap.size + 1 + 1 < W.heap.size := by rw [hsz]; omega
  have d1 : w1.cell? ⟨w.heap.size, 1, none⟩ = some (.slice ta tl tc) := by rw [hB1.cell (p := ⟨w.heap.size, 1, none⟩) lt0]; exact c1
  have d2 : w1.cell? ⟨w.heap.size + 1 + 1, 0, none⟩ = some (.slice none 0 0) := by rw [hB1.cell (p := ⟨w.heap.size + 1 + 1, 0, none⟩) lt2]; exact cs0 0 (by decide)
  have d3 : w1.cell? ⟨w.heap.size + 1 + 1, 1, none⟩ = some (.slice none 0 0) := by rw [hB1.cell (p := ⟨w.heap.size + 1 + 1, 1, none⟩) lt2]; exact cs0 1 (by decide)
  have d4 : w1.cell? ⟨w.heap.size + 1, 0, none⟩ = some (.slice none 0 0) := by rw [hB1.cell (p := ⟨w.heap.size + 1, 0, none⟩) lt1]; exact cr0 0 (by decide)
  have d5 : w1.cell? ⟨w.heap.size + 1, 1, none⟩ = some (.slice none 0 0) := by rw [hB1.cell (p := ⟨w.heap.size + 1, 1, none⟩) lt1]; exact cr0 1 (by decide)
  have g2 : w1.frozen? ⟨w.heap.size + 1 + 1, 0, none⟩ = false := by rw [hB1.frozen (p := ⟨w.heap.size + 1 + 1, 0, none⟩) lt2]; exact fs0 0
  have g3 : w1.frozen? ⟨w.heap.size + 1 + 1, 1, none⟩ = false := by rw [hB1.frozen (p := ⟨w.heap.size + 1 + 1, 1, none⟩) lt2]; exact fs0 1
  have g4 : w1.frozen? ⟨w.heap.size + 1, 0, none⟩ = false := by rw [hB1.frozen (p := ⟨w.heap.size + 1, 0, none⟩) lt1]; exact fr0 0
  have g5 : w1.frozen? ⟨w.heap.size + 1, 1, none⟩ = false := by rw [hB1.frozen (p := ⟨w.heap.size + 1, 1, none⟩) lt1]; exact fr0 1
  have hBW : Below w.heap.size w w1 := hB0.trans (hB1.mono (by rw [hsz]; omega))
  have hz : w.heap.size + 1 + 1 + 1 < w1.heap.size := by rw [← hsz]; exact hS1
  have HV := Lib.hid hV
  have HBW := Lib.hid hBW
  have HSZ := Lib.hid hsz
  generalize W.heap.size = B at *
  clear c1 cs0 cr0 fs0 fr0 hB0 hB1 hV hBW hsz lt0 lt1 lt2 hn
  go_wp2_with fail
  have hB2 : Below w.heap.size w (w1.setCell ⟨w.heap.size + 1 + 1, 0, none⟩ (.slice (some ⟨B, 0, none⟩) pl pl)) := HBW.out.setCell (by show w.heap.size ≤ w.heap.size + 1 + 1; omega) _
  have e2 := World.cell?_setCell_same w1 ⟨w.heap.size + 1 + 1, 0, none⟩ (.slice (some ⟨B, 0, none⟩) pl pl) d2
  have e3 : (w1.setCell ⟨w.heap.size + 1 + 1, 0, none⟩ (.slice (some ⟨B, 0, none⟩) pl pl)).cell? ⟨w.heap.size + 1 + 1, 1, none⟩ = some (.slice none 0 0) := by rw [World.cell?_setCell_other _ _ _ _ (by simp)]; exact d3
  have e4 : (w1.setCell ⟨w.heap.size + 1 + 1, 0, none⟩ (.slice (some ⟨B, 0, none⟩) pl pl)).cell? ⟨w.heap.size + 1, 0, none⟩ = some (.slice none 0 0) := by rw [World.cell?_setCell_other _ _ _ _ (by simp)]; exact d4
  have e5 : (w1.setCell ⟨w.heap.size + 1 + 1, 0, none⟩ (.slice (some ⟨B, 0, none⟩) pl pl)).cell? ⟨w.heap.size + 1, 1, none⟩ = some (.slice none 0 0) := by rw [World.cell?_setCell_other _ _ _ _ (by simp)]; exact d5
  have k3 : (w1.setCell ⟨w.heap.size + 1 + 1, 0, none⟩ (.slice (some ⟨B, 0, none⟩) pl pl)).frozen? ⟨w.heap.size + 1 + 1, 1, none⟩ = false := by simp; exact g3
  have k4 : (w1.setCell ⟨w.heap.size + 1 + 1, 0, none⟩ (.slice (some ⟨B, 0, none⟩) pl pl)).frozen? ⟨w.heap.size + 1, 0, none⟩ = false := by simp; exact g4
  have k5 : (w1.setCell ⟨w.heap.size + 1 + 1, 0, none⟩ (.slice (some ⟨B, 0, none⟩) pl pl)).frozen? ⟨w.heap.size + 1, 1, none⟩ = false := by simp; exact g5
  have hV2 : IsVs (w1.setCell ⟨w.heap.size + 1 + 1, 0, none⟩ (.slice (some ⟨B, 0, none⟩) pl pl)) (some ⟨B, 0, none⟩) pl pl cs := HV.out.set (by rw [HSZ.out]; show w.heap.size + 1 + 1 ≠ w.heap.size + 1 + 1 + 1; omega)
  have hsz2 : (w1.setCell ⟨w.heap.size + 1 + 1, 0, none⟩ (.slice (some ⟨B, 0, none⟩) pl pl)).heap.size = w1.heap.size := by simp
  clear d1 d2 d3 d4 d5 g2 g3 g4 g5
  generalize (w1.setCell ⟨w.heap.size + 1 + 1, 0, none⟩ (.slice (some ⟨B, 0, none⟩) pl pl)) = W2 at *
  have lt1 : w.heap.size + 1 < W2.heap.size := by rw [hsz2]; omega
  have lt2 : w.heap.size + 1 + 1 < W2.heap.size := by rw [hsz2]; omega
  refine (laws_toInt64SS _ _ _ _ _ (hT.out.below hB2) s2 hS3.out).mono ?_
  rintro e w3 ⟨rfl, hT3, hB3, hS3'⟩
  have d2 : w3.cell? ⟨w.heap.size + 1 + 1, 0, none⟩ = some (.slice (some ⟨B, 0, none⟩) pl pl) := by rw [hB3.cell (p := ⟨w.heap.size + 1 + 1, 0, none⟩) lt2]; exact e2
  have d3 : w3.cell? ⟨w.heap.size + 1 + 1, 1, none⟩ = some (.slice none 0 0) := by rw [hB3.cell (p := ⟨w.heap.size + 1 + 1, 1, none⟩) lt2]; exact e3
  have d4 : w3.cell? ⟨w.heap.size + 1, 0, none⟩ = some (.slice none 0 0) := by rw [hB3.cell (p := ⟨w.heap.size + 1, 0, none⟩) lt1]; exact e4
  have d5 : w3.cell? ⟨w.heap.size + 1, 1, none⟩ = some (.slice none 0 0) := by rw [hB3.cell (p := ⟨w.heap.size + 1, 1, none⟩) lt1]; exact e5
  have g3 : w3.frozen? ⟨w.heap.size + 1 + 1, 1, none⟩ = false := by rw [hB3.frozen (p := ⟨w.heap.size + 1 + 1, 1, none⟩) lt2]; exact k3
  have g4 : w3.frozen? ⟨w.heap.size + 1, 0, none⟩ = false := by rw [hB3.frozen (p := ⟨w.heap.size + 1, 0, none⟩) lt1]; exact k4
  have g5 : w3.frozen? ⟨w.heap.size + 1, 1, none⟩ = false := by rw [hB3.frozen (p := ⟨w.heap.size + 1, 1, none⟩) lt1]; exact k5
  have HV3 := Lib.hid (hV2.below hB3)
  have HT3 := Lib.hid hT3
  have HB3 := Lib.hid (hB2.trans (hB3.mono (by rw [hsz2]; omega)))
  have HSZ2 := Lib.hid hsz2
  have HZ := Lib.hid hz
  generalize W2.heap.size = B2 at *
  clear hV2 hT3 hB3 hB2 e2 e3 e4 e5 k3 k4 k5 hsz2 lt1 lt2 hz hS1 hS3'
  go_wp2
  have x0 : ∀ u, ((w3.setCell ⟨w.heap.size + 1 + 1, 1, none⟩ u).cell? ⟨w.heap.size + 1, 0, none⟩) = some (.slice none 0 0) := fun u => by rw [World.cell?_setCell_other _ _ _ _ (by simp)]; exact d4
  have x1 : ∀ u v, (((w3.setCell ⟨w.heap.size + 1 + 1, 1, none⟩ u).setCell ⟨w.heap.size + 1, 0, none⟩ v).cell? ⟨w.heap.size + 1, 1, none⟩) = some (.slice none 0 0) := fun u v => by rw [World.cell?_setCell_other _ _ _ _ (by simp), World.cell?_setCell_other _ _ _ _ (by simp)]; exact d5
  have r1 : ∀ u v t, ((((w3.setCell ⟨w.heap.size + 1 + 1, 1, none⟩ u).setCell ⟨w.heap.size + 1, 0, none⟩ v).setCell ⟨w.heap.size + 1, 1, none⟩ t).cell? ⟨w.heap.size + 1, 1, none⟩) = some t := fun u v t => World.cell?_setCell_same _ _ _ (x1 u v)
  have r0 : ∀ u v t, ((((w3.setCell ⟨w.heap.size + 1 + 1, 1, none⟩ u).setCell ⟨w.heap.size + 1, 0, none⟩ v).setCell ⟨w.heap.size + 1, 1, none⟩ t).cell? ⟨w.heap.size + 1, 0, none⟩) = some v := fun u v t => by rw [World.cell?_setCell_other _ _ _ _ (by simp)]; exact World.cell?_setCell_same _ _ _ (x0 u)
  have hB := HSZ.out
  have hB2 := HSZ2.out
  have hz := HZ.out
  have n1 : ∀ z, (.slice none 0 0 : Value) ≠ .int .i64 z := fun z h => by cases h
  refine bodyPost_ret (v := .agg #[.slice (some ⟨B, 0, none⟩) pl pl, .slice (some ⟨B2, 0, none⟩) tl tl]) (by simp [results, Try.results17, go_sem, r0, r1]) rfl ⟨⟨B, B2, rfl, by omega, by omega, ?_, ?_⟩, ?_⟩
  · exact ((HV3.out.set (by show w.heap.size + 1 + 1 ≠ B; omega)).set (by show w.heap.size + 1 ≠ B; omega)).set (by show w.heap.size + 1 ≠ B; omega)
  · exact ((HT3.out.setN (by show w.heap.size + 1 + 1 ≠ B2; omega) d3 n1).setN (by show w.heap.size + 1 ≠ B2; omega) (x0 _) n1).setN (by show w.heap.size + 1 ≠ B2; omega) (x1 _ _) n1
  · exact ((HB3.out.setCell (by show w.heap.size ≤ w.heap.size + 1 + 1; omega) _).setCell (by show w.heap.size ≤ w.heap.size + 1; omega) _).setCell (by show w.heap.size ≤ w.heap.size + 1; omega) _
end Go.Proofs.Ytmbekamnogbgaaa


/-
Lists of holds: copies, and that two are the same: what the law's own functions return. Conditions: at most 2^20 of them.
-/
namespace Go.Proofs.Ytmbekamnogbgaaa
open Go Fk Go.RowKit
set_option linter.unusedVariables false
set_option maxRecDepth 8000

theorem infoH : (Try.prog.info? 117).map (fun i => (i.zero, i.size, i.bytes)) = some (some (.agg #[.int .i64 0, .int .i64 0, .float .f32 0, .float .f32 0, .float .f32 0, .float .f32 0, .float .f32 0, .float .f32 0]), 8, 40) := by kernel_rfl
theorem laws_szHoldS (a : Option Addr) (len cap : Nat) (left : Int) (w : World) (h0 : 0 ≤ left) (h1 : left ≤ 1048576) (h2 : len ≤ 9223372036854775807) :
    Calls Try.prog 32 #[.slice a len cap, .int .i64 left] w fun e w' => (∃ r : Int, e = .returned (.int .i64 r) ∧ (r = -1 ∨ (0 ≤ r ∧ r ≤ 1048576 ∧ len ≤ 1048576))) ∧ w' = w := by
  by_cases h : left < len
  · go_enter Try.func32, Try.ntmps32
    go_wp2
    go_ret
    exact ⟨⟨-1, rfl, .inl rfl⟩, rfl⟩
  · go_enter Try.func32, Try.ntmps32
    go_wp2
    go_ret
    exact ⟨⟨_, rfl, .inr ⟨by omega, by omega, by omega⟩⟩, rfl⟩
set_option maxHeartbeats 1000000 in
theorem laws_toHoldS (a : Option Addr) (len cap : Nat) (hs : List HC) (w : World) (h : IsHs w a len cap hs) (hlen : len ≤ 1048576) :
    Calls Try.prog 34 #[.slice a len cap] w fun e w' => e = .returned (.slice (some ⟨w.heap.size, 0, none⟩) len len) ∧ IsHs w' (some ⟨w.heap.size, 0, none⟩) len len hs ∧ Below w.heap.size w w' := by
  have uh := Try.underlying117
  have ul := Try.underlying120
  obtain ⟨i0, hi, hz0, hz1, hz2⟩ := info_parts infoH
  have hzl := h.1
  have hwf := h.2.2.2.1
  obtain ⟨g, hg⟩ : ∃ g, g = w.heap.size := ⟨_, rfl⟩
  have hmk : (Instr.makeSlice 61 (.int .i64 len) (.int .i64 len)).run Try.prog w = .ok (.slice (some ⟨g, 0, none⟩) len len) (w.alloc (.cells (madeCells #[.int .i64 0, .int .i64 0, .float .f32 0, .float .f32 0, .float .f32 0, .float .f32 0, .float .f32 0, .float .f32 0] (len * 8)) 117)) := by
    have := run_make (P := Try.prog) w 61 117 i0 (.agg #[.int .i64 0, .int .i64 0, .float .f32 0, .float .f32 0, .float .f32 0, .float .f32 0, .float .f32 0, .float .f32 0]) Try.underlying61 hi hz0 .i64 .i64 len len (by omega) (Int.le_refl _) (by rw [hz2]; omega) (by omega)
    rw [this, hz1, hg]; simp; rfl
  have hstart : Below w.heap.size w (w.alloc (.cells (madeCells #[.int .i64 0, .int .i64 0, .float .f32 0, .float .f32 0, .float .f32 0, .float .f32 0, .float .f32 0, .float .f32 0] (len * 8)) 117)) ∧ g < (w.alloc (.cells (madeCells #[.int .i64 0, .int .i64 0, .float .f32 0, .float .f32 0, .float .f32 0, .float .f32 0, .float .f32 0, .float .f32 0] (len * 8)) 117)).heap.size ∧
      (∀ j, j < len * 8 → ∃ v, (w.alloc (.cells (madeCells #[.int .i64 0, .int .i64 0, .float .f32 0, .float .f32 0, .float .f32 0, .float .f32 0, .float .f32 0, .float .f32 0] (len * 8)) 117)).cell? ⟨g, j, none⟩ = some v) ∧ (∀ j, (w.alloc (.cells (madeCells #[.int .i64 0, .int .i64 0, .float .f32 0, .float .f32 0, .float .f32 0, .float .f32 0, .float .f32 0, .float .f32 0] (len * 8)) 117)).frozen? ⟨g, j, none⟩ = false) := by
    subst hg
    exact ⟨(Below.refl _ _).alloc (Nat.le_refl _) _, by simp, fun j hj => made_cell3 w _ (len * 8) j _ hj, fun j => by simp⟩
  rw [← hg] at hstart ⊢
  have HST := Lib.hid hstart
  have HG := Lib.hid hg
  have H := Lib.hid h
  have HWF := Lib.hid hwf
  clear hstart hg h hwf
  go_enter Try.func34, Try.ntmps34
  go_wp2
  generalize hw0 : (w.alloc (.cells (madeCells #[.int .i64 0, .int .i64 0, .float .f32 0, .float .f32 0, .float .f32 0, .float .f32 0, .float .f32 0, .float .f32 0] (len * 8)) 117)) = w0 at HST ⊢
  go_loopw [4] (fun i w' => ∃ k : Nat, k ≤ len ∧ i = .int .i64 k ∧ Aside ((Below g w w' ∧ g < w'.heap.size ∧ (∀ j, j < len * 8 → ∃ v, w'.cell? ⟨g, j, none⟩ = some v) ∧ (∀ j, w'.frozen? ⟨g, j, none⟩ = false)) ∧
      ∀ j, j < k → ∃ q : HW, q.At w' g (j * 8) ∧ q.Is (hs.getD j hd0))) (fun i _ => len - (intOf i).toNat)
  case atStart => exact ⟨0, Nat.zero_le _, rfl, HST.out, fun j hj => absurd hj (by omega)⟩
  case round =>
    obtain ⟨k, hk, rfl, hA⟩ := hrel
    by_cases hlt : k < len
    · obtain ⟨⟨hB, hgs, hce, hfz⟩, hdone⟩ := hA.out
      obtain ⟨b, o, ha, hcell⟩ := (H.out.below (HG.out ▸ hB)).some (by omega)
      obtain ⟨h, hq, hqi⟩ := hcell k hlt
      rw [ha]
      have HA := Lib.hid ha
      have hk0 : (0 : Int) ≤ (k : Int) := by omega
      have hk1 : (k : Int) < (len : Int) := by omega
      have c0 := hq 0 (by omega)
      have c1 := hq 1 (by omega)
      have c2 := hq 2 (by omega)
      have c3 := hq 3 (by omega)
      have c4 := hq 4 (by omega)
      have c5 := hq 5 (by omega)
      have c6 := hq 6 (by omega)
      have c7 := hq 7 (by omega)
      simp only [HW.l, List.getElem?_cons_zero, List.getElem?_cons_succ, Nat.add_zero] at c0 c1 c2 c3 c4 c5 c6 c7
      have HD := Lib.hid hdone
      have HC := Lib.hid hce
      have HF := Lib.hid hfz
      have HB := Lib.hid hB
      have HQI := Lib.hid hqi
      clear hA hcell hdone hce hfz hB hqi ha hq
      go_wp2_with fail
      refine (laws_toHold h _).mono ?_
      rintro e w1 ⟨rfl, hB1⟩
      clear c0 c1 c2 c3 c4 c5 c6 c7
      obtain ⟨v0, hv0⟩ := HC.out (k * 8) (by omega)
      replace hv0 := (hB1.cell (p := ⟨g, k * 8, none⟩) hgs).trans hv0
      have hf0 := (hB1.frozen (p := ⟨g, k * 8, none⟩) hgs).trans (HF.out (k * 8))
      obtain ⟨v1, hv1⟩ := HC.out (k * 8 + 1) (by omega)
      replace hv1 := (hB1.cell (p := ⟨g, k * 8 + 1, none⟩) hgs).trans hv1
      have hf1 := (hB1.frozen (p := ⟨g, k * 8 + 1, none⟩) hgs).trans (HF.out (k * 8 + 1))
      obtain ⟨v2, hv2⟩ := HC.out (k * 8 + 2) (by omega)
      replace hv2 := (hB1.cell (p := ⟨g, k * 8 + 2, none⟩) hgs).trans hv2
      have hf2 := (hB1.frozen (p := ⟨g, k * 8 + 2, none⟩) hgs).trans (HF.out (k * 8 + 2))
      obtain ⟨v3, hv3⟩ := HC.out (k * 8 + 3) (by omega)
      replace hv3 := (hB1.cell (p := ⟨g, k * 8 + 3, none⟩) hgs).trans hv3
      have hf3 := (hB1.frozen (p := ⟨g, k * 8 + 3, none⟩) hgs).trans (HF.out (k * 8 + 3))
      obtain ⟨v4, hv4⟩ := HC.out (k * 8 + 4) (by omega)
      replace hv4 := (hB1.cell (p := ⟨g, k * 8 + 4, none⟩) hgs).trans hv4
      have hf4 := (hB1.frozen (p := ⟨g, k * 8 + 4, none⟩) hgs).trans (HF.out (k * 8 + 4))
      obtain ⟨v5, hv5⟩ := HC.out (k * 8 + 5) (by omega)
      replace hv5 := (hB1.cell (p := ⟨g, k * 8 + 5, none⟩) hgs).trans hv5
      have hf5 := (hB1.frozen (p := ⟨g, k * 8 + 5, none⟩) hgs).trans (HF.out (k * 8 + 5))
      obtain ⟨v6, hv6⟩ := HC.out (k * 8 + 6) (by omega)
      replace hv6 := (hB1.cell (p := ⟨g, k * 8 + 6, none⟩) hgs).trans hv6
      have hf6 := (hB1.frozen (p := ⟨g, k * 8 + 6, none⟩) hgs).trans (HF.out (k * 8 + 6))
      obtain ⟨v7, hv7⟩ := HC.out (k * 8 + 7) (by omega)
      replace hv7 := (hB1.cell (p := ⟨g, k * 8 + 7, none⟩) hgs).trans hv7
      have hf7 := (hB1.frozen (p := ⟨g, k * 8 + 7, none⟩) hgs).trans (HF.out (k * 8 + 7))
      have HB1 := Lib.hid hB1
      have HEX : Hid (∀ j, j < h.l.length → ∃ u, w1.cell? ⟨g, k * 8 + j, none⟩ = some u) := Lib.hid (fun j hj => by
        have hj8 : j < 8 := hj
        obtain ⟨u, hu⟩ := HC.out (k * 8 + j) (by omega)
        exact ⟨u, (hB1.cell (p := ⟨g, k * 8 + j, none⟩) hgs).trans hu⟩)
      clear hB1
      unfold HW.v
      go_wp2
      clear hv0 hv1 hv2 hv3 hv4 hv5 hv6 hv7 hf0 hf1 hf2 hf3 hf4 hf5 hf6 hf7
      go_roundw
      case rel =>
        have hB1 := HB1.out
        have hin := setL_in g h.l w1 (k * 8) HEX.out
        have hout := fun m hm => setL_out g m h.l w1 (k * 8) hm
        have hsz := setL_size g h.l w1 (k * 8)
        have hfr := fun i => setL_frozen g ⟨g, i, none⟩ h.l w1 (k * 8)
        have hbl : Below g w (setL w1 g (k * 8) h.l) := setL_below g (Nat.le_refl _) h.l w1 (k * 8) (HB.out.trans (hB1.mono (by omega)))
        refine ⟨k + 1, by omega, by go_num, ⟨⟨hbl, ?_, fun j hj => ?_, fun j => ?_⟩, fun j hj => ?_⟩⟩
        · show g < (setL w1 g (k * 8) h.l).heap.size
          rw [hsz]; have := hB1.size; omega
        · show ∃ v, (setL w1 g (k * 8) h.l).cell? ⟨g, j, none⟩ = some v
          by_cases hj8 : k * 8 ≤ j ∧ j < k * 8 + 8
          · have := hin (j - k * 8) (by show j - k * 8 < 8; omega)
            rw [show k * 8 + (j - k * 8) = j by omega] at this
            rw [this]
            exact ⟨_, List.getElem?_eq_getElem (by show j - k * 8 < 8; omega)⟩
          · rw [hout j (by show j < k * 8 ∨ k * 8 + 8 ≤ j; omega)]
            obtain ⟨v, hv⟩ := HC.out j hj
            exact ⟨v, (hB1.cell (p := ⟨g, j, none⟩) hgs).trans hv⟩
        · show (setL w1 g (k * 8) h.l).frozen? ⟨g, j, none⟩ = false
          rw [hfr]; exact (hB1.frozen (p := ⟨g, j, none⟩) hgs).trans (HF.out j)
        · show ∃ q : HW, q.At (setL w1 g (k * 8) h.l) g (j * 8) ∧ q.Is (hs.getD j hd0)
          by_cases hjk : j = k
          · subst hjk
            exact ⟨h, fun i hi => hin i hi, HQI.out⟩
          · obtain ⟨q, hq, hqi⟩ := HD.out j (by omega)
            refine ⟨q, fun i hi => ?_, hqi⟩
            rw [hout _ (by show j * 8 + i < k * 8 ∨ k * 8 + 8 ≤ j * 8 + i; omega)]
            exact (hB1.cell (p := ⟨g, j * 8 + i, none⟩) hgs).trans (hq i hi)
      case measure => simp [intOf]; omega
    · obtain rfl : k = len := by omega
      obtain ⟨⟨hB, hgs, hce, hfz⟩, hdone⟩ := hA.out
      have hfin : IsHs wr (some ⟨g, 0, none⟩) k k hs := by
        refine ⟨hzl, Nat.le_refl _, by unfold maxLen; omega, HWF.out, by simp, fun x hx i hi => ?_⟩
        cases hx
        obtain ⟨q, hq, hqi⟩ := hdone i hi
        exact ⟨rfl, q, by rw [Nat.zero_add]; exact hq, hqi⟩
      have HF := Lib.hid hfin
      have HB := Lib.hid hB
      clear hA hB hce hfz hdone hfin
      go_wp2
      go_ret
      exact ⟨rfl, HF.out, HB.out⟩
set_option maxHeartbeats 1000000 in
theorem laws_eqHoldS (a b : Option Addr) (len cap cap' : Nat) (hs : List HC) (w : World) (ha : IsHs w a len cap hs) (hb : IsHs w b len cap' hs) :
    Calls Try.prog 36 #[.slice a len cap, .slice b len cap'] w fun e w' => e = .returned (.bool true) ∧ Below w.heap.size w w' := by
  have hm : len ≤ 9223372036854775807 := by have h1 := ha.2.1; have h2 := ha.2.2.1; unfold maxLen at h2; omega
  have uh := Try.underlying117
  have HA := Lib.hid ha
  have HB := Lib.hid hb
  clear ha hb
  go_enter Try.func36, Try.ntmps36
  go_wp2
  go_loopw [5] (fun i w' => ∃ k : Nat, k ≤ len ∧ i = .int .i64 k ∧ Aside (Below w.heap.size w w')) (fun i _ => len - (intOf i).toNat)
  case atStart => exact ⟨0, Nat.zero_le _, rfl, Below.refl _ _⟩
  case round =>
    obtain ⟨k, hk, rfl, hR⟩ := hrel
    have HR := Lib.hid hR.out
    clear hR
    by_cases hlt : k < len
    · obtain ⟨b1, o1, rfl, hc1⟩ := (HA.out.below HR.out).some (by omega)
      obtain ⟨b2, o2, rfl, hc2⟩ := (HB.out.below HR.out).some (by omega)
      obtain ⟨h, q1, i1⟩ := hc1 k hlt
      obtain ⟨q, q2, i2⟩ := hc2 k hlt
      generalize hs.getD k hd0 = z at *
      have Qh := Lib.hid q1
      have Qq := Lib.hid q2
      have IH := Lib.hid i1
      have IQ := Lib.hid i2
      have hk0 : (0 : Int) ≤ (k : Int) := by omega
      have hk1 : (k : Int) < (len : Int) := by omega
      clear hc1 hc2 q1 q2 i1 i2
      go_wp2_with fail
      refine Reg.wp_region_mix (C := fun w' => Below wr.heap.size wr w') (G := fun _ _ => True) (R := fun i v w' => match i with | 0 => v = .slice (some ⟨b1, o1, none⟩) len cap | 1 => v = .int .i64 k | 2 => v = .pointer (some ⟨b1, o1 + k * 8, none⟩) | 3 => v = .agg #[.int .i64 h.p, .int .i64 h.k, .float .f32 h.x, .float .f32 h.y, .float .f32 h.z, .float .f32 h.s, .float .f32 h.t, .float .f32 h.u] | 4 => v = .slice (some ⟨b2, o2, none⟩) len cap' | 5 => v = .int .i64 k | 6 => v = .pointer (some ⟨b2, o2 + k * 8, none⟩) | 7 => v = .agg #[.int .i64 q.p, .int .i64 q.k, .float .f32 q.x, .float .f32 q.y, .float .f32 q.z, .float .f32 q.s, .float .f32 q.t, .float .f32 q.u] | 8 => v = .bool true | 9 => v = .bool false | _ => True) (T := fun _ _ _ => True) [false, false, false, false, false, false, false, false, false, false, false, false, false, false, false, false, false, true, true, true, true, true, true, true, true, true, true]
        (by kernel_rfl) (by kernel_rfl) (by kernel_rfl) (fun _ _ _ _ _ _ h => h) (below_drewN (Below.refl _ _) 1) ?_ ?_
      · refine ⟨Reg.Obl.mk ?_, Reg.Obl.mk ?_, Reg.Obl.mk ?_, Reg.Obl.mk ?_, Reg.Obl.mk ?_, Reg.Obl.mk ?_, Reg.Obl.mk ?_, Reg.Obl.mk ?_, Reg.Obl.mk ?_, Reg.Obl.mk ?_, trivial⟩
        · rintro a w1 hC hx hd K hK
          have HC := Lib.hid hC
          clear hC
          have t0 : a.tmps[0]?.getD undef = .slice (some ⟨b1, o1, none⟩) len cap := Reg.slot_val (hx 0 (by kernel_rfl))
          go_simp
          exact hK _ _ (fun _ => rfl) (fun h => by cases h) HC.out trivial
        · rintro a w1 hC hx hd K hK
          have HC := Lib.hid hC
          clear hC
          have t5 : a.tmps[5]?.getD undef = .int .i64 k := Reg.slot_val (hx 5 (by kernel_rfl))
          go_simp
          exact hK _ _ (fun _ => rfl) (fun h => by cases h) HC.out trivial
        · rintro a w1 hC hx hd K hK
          have HC := Lib.hid hC
          clear hC
          have t17 : a.tmps[17]?.getD undef = .slice (some ⟨b1, o1, none⟩) len cap := Reg.slot_val (hd 0 (by kernel_rfl) 17 rfl)
          have t18 : a.tmps[18]?.getD undef = .int .i64 k := Reg.slot_val (hd 1 (by kernel_rfl) 18 rfl)
          go_simp
          exact hK _ _ (fun _ => rfl) (fun h => by cases h) HC.out trivial
        · rintro a w1 hC hx hd K hK
          have HC := Lib.hid hC
          clear hC
          have c0 := (Qh.out.below HC.out) 0 (by omega)
          have c1 := (Qh.out.below HC.out) 1 (by omega)
          have c2 := (Qh.out.below HC.out) 2 (by omega)
          have c3 := (Qh.out.below HC.out) 3 (by omega)
          have c4 := (Qh.out.below HC.out) 4 (by omega)
          have c5 := (Qh.out.below HC.out) 5 (by omega)
          have c6 := (Qh.out.below HC.out) 6 (by omega)
          have c7 := (Qh.out.below HC.out) 7 (by omega)
          simp only [HW.l, List.getElem?_cons_zero, List.getElem?_cons_succ, Nat.add_zero] at c0 c1 c2 c3 c4 c5 c6 c7
          have t19 : a.tmps[19]?.getD undef = .pointer (some ⟨b1, o1 + k * 8, none⟩) := Reg.slot_val (hd 2 (by kernel_rfl) 19 rfl)
          go_simp
          exact hK _ _ (fun _ => rfl) (fun h => by cases h) HC.out trivial
        · rintro a w1 hC hx hd K hK
          have HC := Lib.hid hC
          clear hC
          have t1 : a.tmps[1]?.getD undef = .slice (some ⟨b2, o2, none⟩) len cap' := Reg.slot_val (hx 1 (by kernel_rfl))
          go_simp
          exact hK _ _ (fun _ => rfl) (fun h => by cases h) HC.out trivial
        · rintro a w1 hC hx hd K hK
          have HC := Lib.hid hC
          clear hC
          have t5 : a.tmps[5]?.getD undef = .int .i64 k := Reg.slot_val (hx 5 (by kernel_rfl))
          go_simp
          exact hK _ _ (fun _ => rfl) (fun h => by cases h) HC.out trivial
        · rintro a w1 hC hx hd K hK
          have HC := Lib.hid hC
          clear hC
          have t21 : a.tmps[21]?.getD undef = .slice (some ⟨b2, o2, none⟩) len cap' := Reg.slot_val (hd 4 (by kernel_rfl) 21 rfl)
          have t22 : a.tmps[22]?.getD undef = .int .i64 k := Reg.slot_val (hd 5 (by kernel_rfl) 22 rfl)
          go_simp
          exact hK _ _ (fun _ => rfl) (fun h => by cases h) HC.out trivial
        · rintro a w1 hC hx hd K hK
          have HC := Lib.hid hC
          clear hC
          have c0 := (Qq.out.below HC.out) 0 (by omega)
          have c1 := (Qq.out.below HC.out) 1 (by omega)
          have c2 := (Qq.out.below HC.out) 2 (by omega)
          have c3 := (Qq.out.below HC.out) 3 (by omega)
          have c4 := (Qq.out.below HC.out) 4 (by omega)
          have c5 := (Qq.out.below HC.out) 5 (by omega)
          have c6 := (Qq.out.below HC.out) 6 (by omega)
          have c7 := (Qq.out.below HC.out) 7 (by omega)
          simp only [HW.l, List.getElem?_cons_zero, List.getElem?_cons_succ, Nat.add_zero] at c0 c1 c2 c3 c4 c5 c6 c7
          have t23 : a.tmps[23]?.getD undef = .pointer (some ⟨b2, o2 + k * 8, none⟩) := Reg.slot_val (hd 6 (by kernel_rfl) 23 rfl)
          go_simp
          exact hK _ _ (fun _ => rfl) (fun h => by cases h) HC.out trivial
        · rintro a w1 hC hx hd K hK
          have HC := Lib.hid hC
          clear hC
          have t20 : a.tmps[20]?.getD undef = .agg #[.int .i64 h.p, .int .i64 h.k, .float .f32 h.x, .float .f32 h.y, .float .f32 h.z, .float .f32 h.s, .float .f32 h.t, .float .f32 h.u] := Reg.slot_val (hd 3 (by kernel_rfl) 20 rfl)
          have t24 : a.tmps[24]?.getD undef = .agg #[.int .i64 q.p, .int .i64 q.k, .float .f32 q.x, .float .f32 q.y, .float .f32 q.z, .float .f32 q.s, .float .f32 q.t, .float .f32 q.u] := Reg.slot_val (hd 7 (by kernel_rfl) 24 rfl)
          go_simp
          refine (laws_eqHold h q z _ IH.out IQ.out).mono ?_
          rintro en w2 ⟨rfl, hB2⟩
          exact hK _ _ (fun _ => rfl) (fun h => by cases h) (HC.out.trans (hB2.mono HC.out.size)) trivial
        · rintro a w1 hC hx hd K hK
          have HC := Lib.hid hC
          clear hC
          have t25 : a.tmps[25]?.getD undef = .bool true := Reg.slot_val (hd 8 (by kernel_rfl) 25 rfl)
          go_simp
          exact hK _ _ (fun _ => rfl) (fun h => by cases h) HC.out trivial
      rintro f w1 hC hd hT
      have g26 : f 26 = .bool false := hd 9 26 rfl
      simp only [Reg.mixL, g26]
      have HC := Lib.hid (HR.out.trans (hC.mono HR.out.size))
      clear hC hd hT
      go_wp2
      go_roundw
      case rel => exact ⟨k + 1, by omega, by go_num, HC.out⟩
      case measure => simp [intOf]; omega
    · obtain rfl : k = len := by omega
      go_wp2
      go_ret
      exact ⟨rfl, HR.out⟩
end Go.Proofs.Ytmbekamnogbgaaa


/-
Which holds have the form of one: the model. Conditions: none beyond that the words fit.
-/
namespace Go.Proofs.Ytmbekamnogbgaaa
open Go Fk Go.RowKit
set_option linter.unusedVariables false
set_option maxRecDepth 8000

theorem l00In2 (k : Int) (w : World) : Calls Try.prog 106 #[.int .i64 k, .int .i64 0, .int .i64 2] w fun e w' => e = .returned (.bool (decide (0 ≤ k ∧ k ≤ 2))) ∧ w' = w := by
  by_cases h : 0 ≤ k
  · by_cases h2 : k ≤ 2
    · rw [decide_eq_true ⟨h, h2⟩]
      go_enter Try.func106, Try.ntmps106
      go_wp2
      go_ret
      exact ⟨ret_bool (by first | (simp; done) | (simp; omega)), rfl⟩
    · rw [decide_eq_false (fun hh => h2 hh.2)]
      go_enter Try.func106, Try.ntmps106
      go_wp2
      go_ret
      exact ⟨ret_bool (by first | (simp; done) | (simp; omega)), rfl⟩
  · rw [decide_eq_false (fun hh => h hh.1)]
    go_enter Try.func106, Try.ntmps106
    go_wp2
    go_ret
    exact ⟨rfl, rfl⟩
theorem Fk.HW.At.c0 {w : World} {b o : Nat} {h : HW} (a : h.At w b o) : w.cell? ⟨b, o, none⟩ = some (.int .i64 h.p) := a 0 (by omega)
theorem Fk.HW.At.c1 {w : World} {b o : Nat} {h : HW} (a : h.At w b o) : w.cell? ⟨b, o + 1, none⟩ = some (.int .i64 h.k) := a 1 (by omega)
theorem Fk.HW.At.c2 {w : World} {b o : Nat} {h : HW} (a : h.At w b o) : w.cell? ⟨b, o + 2, none⟩ = some (.float .f32 h.x) := a 2 (by omega)
theorem Fk.HW.At.c3 {w : World} {b o : Nat} {h : HW} (a : h.At w b o) : w.cell? ⟨b, o + 2 + 1, none⟩ = some (.float .f32 h.y) := a 3 (by omega)
theorem Fk.HW.At.c4 {w : World} {b o : Nat} {h : HW} (a : h.At w b o) : w.cell? ⟨b, o + 2 + 2, none⟩ = some (.float .f32 h.z) := a 4 (by omega)
theorem Fk.HW.At.c5 {w : World} {b o : Nat} {h : HW} (a : h.At w b o) : w.cell? ⟨b, o + 5, none⟩ = some (.float .f32 h.s) := a 5 (by omega)
theorem Fk.HW.At.c6 {w : World} {b o : Nat} {h : HW} (a : h.At w b o) : w.cell? ⟨b, o + 5 + 1, none⟩ = some (.float .f32 h.t) := a 6 (by omega)
theorem Fk.HW.At.c7 {w : World} {b o : Nat} {h : HW} (a : h.At w b o) : w.cell? ⟨b, o + 5 + 2, none⟩ = some (.float .f32 h.u) := a 7 (by omega)
theorem Fk.HW.At.own {w : World} {b : Nat} {h : HW} (a : Go.Proofs.Ytmbekamnogbgaaa.At w b h.l) : h.At w b 0 := fun i hi => by
  rw [Nat.zero_add]
  have hl : i < h.l.length := hi
  rw [List.getElem?_eq_getElem hl]
  exact a i _ (List.getElem?_eq_getElem hl)
/-- Which holds have the form of one: the model. -/
theorem l04Is (b o : Nat) (h : HW) (c : HC) (w : World) (a : h.At w b o) (i : h.Is c) :
    Calls Try.prog 151 #[.pointer (some ⟨b, o, none⟩)] w fun e w' => e = .returned (.bool (holdB c)) ∧ Below w.heap.size w w' := by
  have u := Try.underlying31
  have ui := Try.underlying2
  have uh := Try.underlying117
  have uv := Try.underlying34
  unfold holdB
  have JK := Lib.hid (fun w => l00In2 h.k w)
  have JF := Lib.hid (fun w => l01VFinite h.x h.y h.z c.2.2.1 w i.2.2.1.1 i.2.2.1.2.1 i.2.2.1.2.2)
  have JW := Lib.hid (fun w => l01VFinite h.s h.t h.u c.2.2.2 w i.2.2.2.1 i.2.2.2.2.1 i.2.2.2.2.2)
  have JI := Lib.hid (fun w => l01Inner h.s h.t h.u h.s h.t h.u w _ _ _ _ _ _ i.2.2.2.1 i.2.2.2.2.1 i.2.2.2.2.2 i.2.2.2.1 i.2.2.2.2.1 i.2.2.2.2.2)
  have hin : fop .add .f32 (fop .add .f32 (fop .mul .f32 c.2.2.2.1 c.2.2.2.1) (fop .mul .f32 c.2.2.2.2.1 c.2.2.2.2.1)) (fop .mul .f32 c.2.2.2.2.2 c.2.2.2.2.2) = innC c.2.2.2 c.2.2.2 := rfl
  rw [hin] at JI
  rw [← i.1, ← i.2.1]
  have A0 := Lib.hid a
  have k0 := a.c0
  have k1 := a.c1
  have k2 := a.c2
  have k3 := a.c3
  have k4 := a.c4
  generalize innC c.2.2.2 c.2.2.2 = N at *
  generalize finV c.2.2.1 = f1 at *
  generalize finV c.2.2.2 = f2 at *
  clear i hin a
  by_cases hp : 0 ≤ h.p
  · have hp0 : decide (h.p < 0) = false := decide_eq_false (by omega)
    rw [decide_eq_true hp]
    by_cases hk : 0 ≤ h.k ∧ h.k ≤ 2
    · have hd : (decide (h.k = 1) || decide (h.k = 2)) = !decide (h.k = 0) := by
        rcases (show h.k = 0 ∨ h.k = 1 ∨ h.k = 2 by omega) with hh | hh | hh <;> simp [hh]
      rw [hd]
      rw [decide_eq_true hk] at JK
      have e0 : (h.k == 0) = decide (h.k = 0) := by by_cases hh : h.k = 0 <;> simp [hh]
      generalize decide (h.k = 0) = z at *
      clear hd hk
      cases f1
      · go_enter Try.func151, Try.ntmps151
        go_wp2_with fail
        refine (JK.out _).mono ?_
        rintro e w1 ⟨rfl, hw1⟩
        rw [hw1]; clear hw1 w1
        go_wp2_with fail
        refine (JF.out _).mono ?_
        rintro e w2 ⟨rfl, hB2⟩
        have B2 := Lib.hid hB2
        clear hB2
        go_wp2
        go_ret
        exact ⟨rfl, B2.out⟩
      · cases f2
        · go_enter Try.func151, Try.ntmps151
          go_wp2_with fail
          refine (JK.out _).mono ?_
          rintro e w1 ⟨rfl, hw1⟩
          rw [hw1]; clear hw1 w1
          go_wp2_with fail
          refine (JF.out _).mono ?_
          rintro e w2 ⟨rfl, hB2⟩
          have B2 := Lib.hid hB2
          have A2 := Lib.hid (A0.out.below hB2)
          have m5 := A2.out.c5
          have m6 := A2.out.c6
          have m7 := A2.out.c7
          clear hB2
          go_wp2_with fail
          refine (JW.out _).mono ?_
          rintro e w3 ⟨rfl, hB3⟩
          have B3 := Lib.hid (B2.out.trans (hB3.mono B2.out.size))
          clear hB3
          go_wp2
          go_ret
          exact ⟨rfl, B3.out⟩
        · cases z
          all_goals
            go_enter Try.func151, Try.ntmps151
            go_wp2_with fail
            refine (JK.out _).mono ?_
            rintro e w1 ⟨rfl, hw1⟩
            rw [hw1]; clear hw1 w1
            go_wp2_with fail
            refine (JF.out _).mono ?_
            rintro e w2 ⟨rfl, hB2⟩
            have B2 := Lib.hid hB2
            have A2 := Lib.hid (A0.out.below hB2)
            have m5 := A2.out.c5
            have m6 := A2.out.c6
            have m7 := A2.out.c7
            clear hB2 k0 k1 k2 k3 k4
            go_wp2_with fail
            refine (JW.out _).mono ?_
            rintro e w3 ⟨rfl, hB3⟩
            have B3 := Lib.hid (B2.out.trans (hB3.mono B2.out.size))
            have A3 := Lib.hid (A2.out.below hB3)
            have m1 := A3.out.c1
            clear m5 m6 m7 hB3
            have m5 := A3.out.c5
            have m6 := A3.out.c6
            have m7 := A3.out.c7
            go_wp2_with fail
            refine Reg.wp_region_mix (C := fun w' => Below w3.heap.size w3 w') (G := fun _ _ => True) (R := fun i v w' => match i with | 0 => v = .pointer (some ⟨b, o, none⟩) | 1 => v = .pointer (some ⟨b, o, none⟩) | 2 => v = .pointer (some ⟨b, o + 5, none⟩) | 3 => v = .agg #[.float .f32 h.s, .float .f32 h.t, .float .f32 h.u] | 4 => v = .pointer (some ⟨b, o, none⟩) | 5 => v = .pointer (some ⟨b, o, none⟩) | 6 => v = .pointer (some ⟨b, o + 5, none⟩) | 7 => v = .agg #[.float .f32 h.s, .float .f32 h.t, .float .f32 h.u] | 8 => ∃ r, v = .float .f32 r ∧ FV .f32 r N | 9 => ∃ r, v = .float .f32 r ∧ FV .f32 r N | _ => True) (T := fun _ _ _ => True) [false, false, false, true, false, false, false, false, false, false, false, false, false, false, false, false, false, false, false, false, false, false, false, false, false, false, false, false, false, false, false, false, false, true, true, true, true, true, true, true, true, true, false, false, false, false, false, false, false, false, false, false, false, false, false]
              (by kernel_rfl) (by kernel_rfl) (by kernel_rfl) (fun _ _ _ _ _ _ h => h) (below_drewN (Below.refl _ _) 1) ?_ ?_
            · refine ⟨Reg.Obl.mk ?_, Reg.Obl.mk ?_, Reg.Obl.mk ?_, Reg.Obl.mk ?_, Reg.Obl.mk ?_, Reg.Obl.mk ?_, Reg.Obl.mk ?_, Reg.Obl.mk ?_, Reg.Obl.mk ?_, Reg.Obl.mk ?_, trivial⟩
              · rintro a w1 hC hx hd K hK
                have HC := Lib.hid hC
                clear hC
                have t0 : a.tmps[0]?.getD undef = .pointer (some ⟨b, o, none⟩) := Reg.slot_val (hx 0 (by kernel_rfl))
                go_simp
                exact hK _ _ (fun _ => rfl) (fun h => by cases h) HC.out trivial
              · rintro a w1 hC hx hd K hK
                have HC := Lib.hid hC
                clear hC
                have t33 : a.tmps[33]?.getD undef = .pointer (some ⟨b, o, none⟩) := Reg.slot_val (hd 0 (by kernel_rfl) 33 rfl)
                go_simp
                exact hK _ _ (fun _ => rfl) (fun h => by cases h) HC.out trivial
              · rintro a w1 hC hx hd K hK
                have HC := Lib.hid hC
                clear hC
                have t34 : a.tmps[34]?.getD undef = .pointer (some ⟨b, o, none⟩) := Reg.slot_val (hd 1 (by kernel_rfl) 34 rfl)
                go_simp
                exact hK _ _ (fun _ => rfl) (fun h => by cases h) HC.out trivial
              · rintro a w1 hC hx hd K hK
                have HC := Lib.hid hC
                clear hC
                have z5 := (A3.out.below HC.out).c5
                have z6 := (A3.out.below HC.out).c6
                have z7 := (A3.out.below HC.out).c7
                have t35 : a.tmps[35]?.getD undef = .pointer (some ⟨b, o + 5, none⟩) := Reg.slot_val (hd 2 (by kernel_rfl) 35 rfl)
                go_simp
                exact hK _ _ (fun _ => rfl) (fun h => by cases h) HC.out trivial
              · rintro a w1 hC hx hd K hK
                have HC := Lib.hid hC
                clear hC
                have t0 : a.tmps[0]?.getD undef = .pointer (some ⟨b, o, none⟩) := Reg.slot_val (hx 0 (by kernel_rfl))
                go_simp
                exact hK _ _ (fun _ => rfl) (fun h => by cases h) HC.out trivial
              · rintro a w1 hC hx hd K hK
                have HC := Lib.hid hC
                clear hC
                have t37 : a.tmps[37]?.getD undef = .pointer (some ⟨b, o, none⟩) := Reg.slot_val (hd 4 (by kernel_rfl) 37 rfl)
                go_simp
                exact hK _ _ (fun _ => rfl) (fun h => by cases h) HC.out trivial
              · rintro a w1 hC hx hd K hK
                have HC := Lib.hid hC
                clear hC
                have t38 : a.tmps[38]?.getD undef = .pointer (some ⟨b, o, none⟩) := Reg.slot_val (hd 5 (by kernel_rfl) 38 rfl)
                go_simp
                exact hK _ _ (fun _ => rfl) (fun h => by cases h) HC.out trivial
              · rintro a w1 hC hx hd K hK
                have HC := Lib.hid hC
                clear hC
                have z5 := (A3.out.below HC.out).c5
                have z6 := (A3.out.below HC.out).c6
                have z7 := (A3.out.below HC.out).c7
                have t39 : a.tmps[39]?.getD undef = .pointer (some ⟨b, o + 5, none⟩) := Reg.slot_val (hd 6 (by kernel_rfl) 39 rfl)
                go_simp
                exact hK _ _ (fun _ => rfl) (fun h => by cases h) HC.out trivial
              · rintro a w1 hC hx hd K hK
                have HC := Lib.hid hC
                clear hC
                have t36 : a.tmps[36]?.getD undef = .agg #[.float .f32 h.s, .float .f32 h.t, .float .f32 h.u] := Reg.slot_val (hd 3 (by kernel_rfl) 36 rfl)
                have t40 : a.tmps[40]?.getD undef = .agg #[.float .f32 h.s, .float .f32 h.t, .float .f32 h.u] := Reg.slot_val (hd 7 (by kernel_rfl) 40 rfl)
                go_simp
                refine (JI.out _).mono ?_
                rintro en w5 ⟨r, rfl, hr, hB5⟩
                exact hK _ _ (fun _ => ⟨r, rfl, hr⟩) (fun h => by cases h) (HC.out.trans (hB5.mono HC.out.size)) trivial
              · rintro a w1 hC hx hd K hK
                have HC := Lib.hid hC
                clear hC
                obtain ⟨r41, g41, f41⟩ := hd 8 (by kernel_rfl) 41 rfl
                have t41 := Reg.slot_val g41
                clear g41
                go_simp
                exact hK _ _ (fun _ => ⟨_, rfl, f41⟩) (fun h => by cases h) HC.out trivial
            rintro f w4 hB4 hd hT
            obtain ⟨r, g3, hr⟩ := hd 9 3 rfl
            simp only [Reg.mixL, g3]
            clear hd hT g3
            have B4 := Lib.hid (B3.out.trans (hB4.mono B3.out.size))
            have A4 := Lib.hid (A3.out.below hB4)
            clear m1 m5 m6 m7
            have m1 := A4.out.c1
            clear hB4
            have hM := Lib.hid (fun w => l01Finite r w hr.1)
            have hs : (finB r && (FloatKind.f32.format.order r 0 == some .gt)) = sizeC N := hr.size
            first
              | (go_wp2
                 go_ret
                 exact ⟨ret_bool (by simp), B4.out⟩)
              | (generalize finB r = fr at *
                 cases fr
                 all_goals
                   go_wp2_with (go_at_call 118; refine (hM.out _).mono ?_; rintro e w5 ⟨rfl, n, hw⟩; rw [hw]; clear hw w5)
                   go_ret
                   exact ⟨ret_bool (by simp at hs; simp [hs]), by repeat (first | exact B4.out | refine below_drewN ?_ _)⟩)
    · have hd : (decide (h.k = 1) || decide (h.k = 2)) = false := by simp; omega
      have hd0 : decide (h.k = 0) = false := decide_eq_false (by omega)
      rw [hd, hd0]
      rw [decide_eq_false hk] at JK
      clear hd hd0 hk
      go_enter Try.func151, Try.ntmps151
      go_wp2_with fail
      refine (JK.out _).mono ?_
      rintro e w1 ⟨rfl, hw1⟩
      rw [hw1]; clear hw1 w1
      go_wp2
      go_ret
      exact ⟨ret_bool (by simp), Below.refl _ _⟩
  · have hp0 : decide (h.p < 0) = true := decide_eq_true (by omega)
    rw [decide_eq_false hp]
    go_enter Try.func151, Try.ntmps151
    go_wp2
    go_ret
    exact ⟨rfl, Below.refl _ _⟩
end Go.Proofs.Ytmbekamnogbgaaa

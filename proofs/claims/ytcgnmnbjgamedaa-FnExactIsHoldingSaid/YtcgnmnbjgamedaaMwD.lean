
/-
Copies of lists of vectors and of meshes: what the law's own functions return. Conditions: at most 2^20 of each.
-/
import Derived.Test.YtcgnmnbjgamedaaMwC
import Derived.Test.YtcgnmnbjgamedaaVec
namespace Go.Proofs.Ytcgnmnbjgamedaa
open Go Fk Go.RowKit
set_option linter.unusedVariables false
set_option maxRecDepth 8000

theorem infoV : (Try.prog.info? 33).map (fun i => (i.zero, i.size, i.bytes)) = some (some (.agg #[.float .f32 0, .float .f32 0, .float .f32 0]), 3, 12) := by kernel_rfl
theorem made_cell3 (w : World) (z : Array Value) (n i : Nat) (t : TypeId) (hi : i < n) : ∃ v, (w.alloc (.cells (madeCells z n) t)).cell? ⟨w.heap.size, i, none⟩ = some v := by
  have : (madeCells z n)[i]? = some (z[i % z.size]!) := by unfold madeCells; simp [hi]
  exact ⟨z[i % z.size]!, by simp [this]⟩
theorem set3k {w : World} {n o : Nat} {u v t u0 v0 t0 : Value} (h0 : w.cell? ⟨n, o, none⟩ = some u0) (h1 : w.cell? ⟨n, o + 1, none⟩ = some v0) (h2 : w.cell? ⟨n, o + 2, none⟩ = some t0) :
    (((w.setCell ⟨n, o, none⟩ u).setCell ⟨n, o + 1, none⟩ v).setCell ⟨n, o + 2, none⟩ t).cell? ⟨n, o, none⟩ = some u ∧ (((w.setCell ⟨n, o, none⟩ u).setCell ⟨n, o + 1, none⟩ v).setCell ⟨n, o + 2, none⟩ t).cell? ⟨n, o + 1, none⟩ = some v ∧ (((w.setCell ⟨n, o, none⟩ u).setCell ⟨n, o + 1, none⟩ v).setCell ⟨n, o + 2, none⟩ t).cell? ⟨n, o + 2, none⟩ = some t ∧
    ∀ j, j ≠ o → j ≠ o + 1 → j ≠ o + 2 → (((w.setCell ⟨n, o, none⟩ u).setCell ⟨n, o + 1, none⟩ v).setCell ⟨n, o + 2, none⟩ t).cell? ⟨n, j, none⟩ = w.cell? ⟨n, j, none⟩ := by
  have a0 := World.cell?_setCell_same w ⟨n, o, none⟩ u h0
  have a1 : (w.setCell ⟨n, o, none⟩ u).cell? ⟨n, o + 1, none⟩ = some v0 := by rw [World.cell?_setCell_other _ _ _ _ (by simp)]; exact h1
  have a2 : (w.setCell ⟨n, o, none⟩ u).cell? ⟨n, o + 2, none⟩ = some t0 := by rw [World.cell?_setCell_other _ _ _ _ (by simp)]; exact h2
  have b1 := World.cell?_setCell_same (w.setCell ⟨n, o, none⟩ u) ⟨n, o + 1, none⟩ v a1
  have b2 : ((w.setCell ⟨n, o, none⟩ u).setCell ⟨n, o + 1, none⟩ v).cell? ⟨n, o + 2, none⟩ = some t0 := by rw [World.cell?_setCell_other _ _ _ _ (by simp)]; exact a2
  refine ⟨?_, ?_, World.cell?_setCell_same _ _ _ b2, fun j j0 j1 j2 => ?_⟩
  · rw [World.cell?_setCell_other _ _ _ _ (by simp), World.cell?_setCell_other _ _ _ _ (by simp)]; exact a0
  · rw [World.cell?_setCell_other _ _ _ _ (by simp)]; exact b1
  · rw [World.cell?_setCell_other _ _ _ _ (by simp <;> omega), World.cell?_setCell_other _ _ _ _ (by simp <;> omega), World.cell?_setCell_other _ _ _ _ (by simp <;> omega)]
set_option maxHeartbeats 400000 in
theorem laws_toVectorS (a : Option Addr) (len cap : Nat) (cs : List C3) (w : World) (h : IsVs w a len cap cs) (hlen : len ≤ 1048576) :
    Calls Try.prog 70 #[.slice a len cap] w fun e w' => e = .returned (.slice (some ⟨w.heap.size, 0, none⟩) len len) ∧ IsVs w' (some ⟨w.heap.size, 0, none⟩) len len cs ∧ Below w.heap.size w w' ∧ w.heap.size < w'.heap.size := by
  have uv := Try.underlying33
  have ul := Try.underlying31
  have u := Try.underlying22
  obtain ⟨i0, hi, hz0, hz1, hz2⟩ := info_parts infoV
  have hzl := h.1
  obtain ⟨g, hg⟩ : ∃ g, g = w.heap.size := ⟨_, rfl⟩
  have hmk : (Instr.makeSlice 47 (.int .i64 len) (.int .i64 len)).run Try.prog w = .ok (.slice (some ⟨g, 0, none⟩) len len) (w.alloc (.cells (madeCells #[.float .f32 0, .float .f32 0, .float .f32 0] (len * 3)) 33)) := by
    have := run_make (P := Try.prog) w 47 33 i0 (.agg #[.float .f32 0, .float .f32 0, .float .f32 0]) Try.underlying47 hi hz0 .i64 .i64 len len (by omega) (Int.le_refl _) (by rw [hz2]; omega) (by omega)
    rw [this, hz1, hg]; simp; rfl
  have hstart : Below w.heap.size w (w.alloc (.cells (madeCells #[.float .f32 0, .float .f32 0, .float .f32 0] (len * 3)) 33)) ∧ g < (w.alloc (.cells (madeCells #[.float .f32 0, .float .f32 0, .float .f32 0] (len * 3)) 33)).heap.size ∧
      (∀ j, j < len * 3 → ∃ v, (w.alloc (.cells (madeCells #[.float .f32 0, .float .f32 0, .float .f32 0] (len * 3)) 33)).cell? ⟨g, j, none⟩ = some v) ∧ (∀ j, (w.alloc (.cells (madeCells #[.float .f32 0, .float .f32 0, .float .f32 0] (len * 3)) 33)).frozen? ⟨g, j, none⟩ = false) := by
    subst hg
    exact ⟨(Below.refl _ _).alloc (Nat.le_refl _) _, by simp, fun j hj => made_cell3 w _ (len * 3) j _ hj, fun j => by simp⟩
  rw [← hg] at hstart ⊢
  have HST := Lib.hid hstart
  have HG := Lib.hid hg
  clear hstart hg
  go_enter Try.func70, Try.ntmps70
  go_wp2
  generalize hw0 : w.alloc (.cells (madeCells #[.float .f32 0, .float .f32 0, .float .f32 0] (len * 3)) 33) = w0 at HST ⊢
  go_loopw [4] (fun i w' => ∃ k : Nat, k ≤ len ∧ i = .int .i64 k ∧ Aside ((Below g w w' ∧ g < w'.heap.size ∧ (∀ j, j < len * 3 → ∃ v, w'.cell? ⟨g, j, none⟩ = some v) ∧ (∀ j, w'.frozen? ⟨g, j, none⟩ = false)) ∧
      ∀ j, j < k → ∃ p q r, w'.cell? ⟨g, j * 3, none⟩ = some (.float .f32 p) ∧ w'.cell? ⟨g, j * 3 + 1, none⟩ = some (.float .f32 q) ∧ w'.cell? ⟨g, j * 3 + 2, none⟩ = some (.float .f32 r) ∧ FV .f32 p (cs.getD j c0).1 ∧ FV .f32 q (cs.getD j c0).2.1 ∧ FV .f32 r (cs.getD j c0).2.2)) (fun i _ => len - (intOf i).toNat)
  case atStart => exact ⟨0, Nat.zero_le _, rfl, HST.out, fun j hj => absurd hj (by omega)⟩
  case round =>
    obtain ⟨k, hk, rfl, hA⟩ := hrel
    by_cases hlt : k < len
    · obtain ⟨⟨hB, hgs, hce, hfz⟩, hdone⟩ := hA.out
      have h' := h.below (HG.out ▸ hB)
      obtain ⟨b, o, rfl, hcell⟩ := h'.some (by omega)
      obtain ⟨p, q, r, hp, hq, hr, fp, fq, fr⟩ := hcell k hlt
      have hk0 : (0 : Int) ≤ (k : Int) := by omega
      have hk1 : (k : Int) < (len : Int) := by omega
      have hf0 := hfz (k * 3)
      have hf1 := hfz (k * 3 + 1)
      have hf2 := hfz (k * 3 + 2)
      obtain ⟨v0, hv0⟩ := hce (k * 3) (by omega)
      obtain ⟨v1, hv1⟩ := hce (k * 3 + 1) (by omega)
      obtain ⟨v2, hv2⟩ := hce (k * 3 + 2) (by omega)
      have HD := Lib.hid hdone
      have HC := Lib.hid hce
      have HF := Lib.hid hfz
      have HB := Lib.hid hB
      clear hA hcell h' hdone hce hfz hB h
      go_wp2_with fail
      refine (laws_toVector _ _ _ _).mono ?_
      rintro e w1 ⟨rfl, hB1⟩
      have hv0' : w1.cell? ⟨g, k * 3, none⟩ = some v0 := by rw [hB1.cell (p := ⟨g, k * 3, none⟩) hgs]; exact hv0
      have hv1' : w1.cell? ⟨g, k * 3 + 1, none⟩ = some v1 := by rw [hB1.cell (p := ⟨g, k * 3 + 1, none⟩) hgs]; exact hv1
      have hv2' : w1.cell? ⟨g, k * 3 + 2, none⟩ = some v2 := by rw [hB1.cell (p := ⟨g, k * 3 + 2, none⟩) hgs]; exact hv2
      have hf0' : w1.frozen? ⟨g, k * 3, none⟩ = false := by rw [hB1.frozen (p := ⟨g, k * 3, none⟩) hgs]; exact hf0
      have hf1' : w1.frozen? ⟨g, k * 3 + 1, none⟩ = false := by rw [hB1.frozen (p := ⟨g, k * 3 + 1, none⟩) hgs]; exact hf1
      have hf2' : w1.frozen? ⟨g, k * 3 + 2, none⟩ = false := by rw [hB1.frozen (p := ⟨g, k * 3 + 2, none⟩) hgs]; exact hf2
      have HB1 := Lib.hid hB1
      clear hB1
      go_wp2
      go_roundw
      case rel =>
        have hB1 := HB1.out
        obtain ⟨e0, e1, e2, eo⟩ := set3k (u := .float .f32 p) (v := .float .f32 q) (t := .float .f32 r) hv0' hv1' hv2'
        refine ⟨k + 1, by omega, by go_num, ⟨⟨(((HB.out.trans (hB1.mono (by omega))).setCell (Nat.le_refl _) _).setCell (Nat.le_refl _) _).setCell (Nat.le_refl _) _, by simp <;> (have := hB1.size; omega), fun j hj => ?_, fun j => ?_⟩, fun j hj => ?_⟩⟩
        · by_cases h0 : j = k * 3
          · subst h0; exact ⟨_, e0⟩
          · by_cases h1 : j = k * 3 + 1
            · subst h1; exact ⟨_, e1⟩
            · by_cases h2 : j = k * 3 + 2
              · subst h2; exact ⟨_, e2⟩
              · obtain ⟨v, hv⟩ := HC.out j hj
                exact ⟨v, by rw [eo j h0 h1 h2, hB1.cell (p := ⟨g, j, none⟩) hgs]; exact hv⟩
        · simp; rw [hB1.frozen (p := ⟨g, j, none⟩) hgs]; exact HF.out j
        · by_cases hjk : j = k
          · subst hjk; exact ⟨p, q, r, e0, e1, e2, fp, fq, fr⟩
          · obtain ⟨p', q', r', k0, k1, k2, hv⟩ := HD.out j (by omega)
            exact ⟨p', q', r', by rw [eo _ (by omega) (by omega) (by omega), hB1.cell (p := ⟨g, j * 3, none⟩) hgs]; exact k0, by rw [eo _ (by omega) (by omega) (by omega), hB1.cell (p := ⟨g, j * 3 + 1, none⟩) hgs]; exact k1,
              by rw [eo _ (by omega) (by omega) (by omega), hB1.cell (p := ⟨g, j * 3 + 2, none⟩) hgs]; exact k2, hv⟩
      case measure => simp [intOf]; omega
    · obtain rfl : k = len := by omega
      obtain ⟨⟨hB, hgs, hce, hfz⟩, hdone⟩ := hA.out
      have hfin : IsVs wr (some ⟨g, 0, none⟩) k k cs := by
        refine ⟨hzl, Nat.le_refl _, by unfold maxLen; omega, by simp, fun x hx i hi => ?_⟩
        cases hx
        obtain ⟨p, q, r, k0, k1, k2, hv⟩ := hdone i hi
        exact ⟨p, q, r, by rw [addr_add', Nat.zero_add]; exact k0, by rw [addr_add', Nat.zero_add]; exact k1, by rw [addr_add', Nat.zero_add]; exact k2, hv⟩
      have HF := Lib.hid hfin
      have HB := Lib.hid hB
      clear hA hB hce hfz hdone hfin h
      go_wp2
      go_ret
      exact ⟨rfl, HF.out, HB.out, hgs⟩
theorem _root_.Go.Proofs.Ytcgnmnbjgamedaa.Fk.IsVs.set {w : World} {a : Addr} {v : Value} {b len cap : Nat} {o : Nat} {cs : List C3} (h : IsVs w (some ⟨b, o, none⟩) len cap cs) (hne : a.block ≠ b) : IsVs (w.setCell a v) (some ⟨b, o, none⟩) len cap cs := by
  obtain ⟨h1, h2, h3, h5, h6⟩ := h
  have ne : ∀ j, a ≠ ⟨b, j, none⟩ := fun j h => hne (by rw [h])
  refine ⟨h1, h2, h3, h5, fun x hx i hi => ?_⟩
  obtain ⟨p, q, r, k0, k1, k2, hv⟩ := h6 x hx i hi
  cases hx
  rw [addr_add'] at k0 k1 k2
  refine ⟨p, q, r, ?_, ?_, ?_, hv⟩
  · rw [addr_add', World.cell?_setCell_other _ _ _ _ (ne _)]; exact k0
  · rw [addr_add', World.cell?_setCell_other _ _ _ _ (ne _)]; exact k1
  · rw [addr_add', World.cell?_setCell_other _ _ _ _ (ne _)]; exact k2
theorem _root_.Go.Proofs.Ytcgnmnbjgamedaa.Fk.IsIs.set' {w : World} {a : Addr} {v : Value} {b : Option Addr} {len cap : Nat} {zs : List Int} (h : IsIs w b len cap zs) (hne : ∀ x, b = some x → a.block ≠ x.block) : IsIs (w.setCell a v) b len cap zs := by
  obtain ⟨h1, h2, h3, h4, h5, h6⟩ := h
  refine ⟨h1, h2, h3, h4, h5, fun x hx i hi => ?_⟩
  have hc := h6 x hx i hi
  rw [World.cell?_setCell_other _ _ _ _ (by intro h; apply hne x hx; rw [h]; unfold Addr.add; split <;> rfl)]; exact hc
theorem _root_.Go.Proofs.Ytcgnmnbjgamedaa.Fk.IsIs.setN {w : World} {a : Addr} {v u : Value} {b : Option Addr} {len cap : Nat} {zs : List Int} (h : IsIs w b len cap zs) (hu : w.cell? a = some u) (hn : ∀ z, u ≠ .int .i64 z) : IsIs (w.setCell a v) b len cap zs := by
  obtain ⟨h1, h2, h3, h4, h5, h6⟩ := h
  refine ⟨h1, h2, h3, h4, h5, fun x hx i hi => ?_⟩
  have hc := h6 x hx i hi
  rw [World.cell?_setCell_other _ _ _ _ (by intro h; rw [h, hc] at hu; exact hn _ (Option.some.inj hu).symm)]; exact hc
theorem _root_.Go.Proofs.Ytcgnmnbjgamedaa.Fk.IsTs.setN {w : World} {a : Addr} {v u : Value} {b o : Nat} {len cap : Nat} {ts : List (List Int)} (h : IsTs w (some ⟨b, o, none⟩) len cap ts) (hne : a.block ≠ b) (hu : w.cell? a = some u) (hn : ∀ z, u ≠ .int .i64 z) : IsTs (w.setCell a v) (some ⟨b, o, none⟩) len cap ts := by
  obtain ⟨h1, h2, h3, h5, h6⟩ := h
  refine ⟨h1, h2, h3, h5, fun x hx i hi => ?_⟩
  obtain ⟨rb, n, c, hc, hi'⟩ := h6 x hx i hi
  cases hx
  refine ⟨rb, n, c, ?_, hi'.setN hu hn⟩
  rw [addr_add'] at hc ⊢
  rw [World.cell?_setCell_other _ _ _ _ (by intro h; apply hne; rw [h])]; exact hc
/-- A mesh that lies in memory. -/
def IsM (w : World) (v : Value) (cs : List C3) (ts : List (List Int)) : Prop :=
  ∃ pa pl pc ta tl tc, v = .agg #[.slice pa pl pc, .slice ta tl tc] ∧ IsVs w pa pl pc cs ∧ IsTs w ta tl tc ts
theorem IsM.below {W w : World} {v : Value} {cs : List C3} {ts : List (List Int)} (hb : Below W.heap.size W w) (h : IsM W v cs ts) : IsM w v cs ts := by
  obtain ⟨pa, pl, pc, ta, tl, tc, e, h1, h2⟩ := h
  exact ⟨pa, pl, pc, ta, tl, tc, e, h1.below hb, h2.below hb⟩
/-- Of a size that the law looks at. -/
def Small (cs : List C3) (ts : List (List Int)) : Prop := cs.length ≤ 1048576 ∧ ts.length ≤ 1048576 ∧ ∀ k, k < ts.length → (ts.getD k []).length ≤ 1048576
theorem laws_toMesh (pa ta : Option Addr) (pl pc tl tc : Nat) (cs : List C3) (ts : List (List Int)) (w : World) (hp : IsVs w pa pl pc cs) (ht : IsTs w ta tl tc ts) (hs : Small cs ts) :
    Calls Try.prog 34 #[.agg #[.slice pa pl pc, .slice ta tl tc]] w fun e w' => (∃ b b', e = .returned (.agg #[.slice (some ⟨b, 0, none⟩) pl pl, .slice (some ⟨b', 0, none⟩) tl tl]) ∧ w.heap.size ≤ b ∧ b < b' ∧ IsVs w' (some ⟨b, 0, none⟩) pl pl cs ∧ IsTs w' (some ⟨b', 0, none⟩) tl tl ts) ∧ Below w.heap.size w w' := by
  have hpl := hp.1
  have htl := ht.1
  obtain ⟨s1, s2, s3⟩ := hs
  rw [hpl] at s1
  rw [htl] at s2 s3
  have hT := Lib.hid ht
  have hP := Lib.hid hp
  have hS3 := Lib.hid s3
  clear hp ht s3 hpl htl
  have ul := Try.underlying45
  have ui := Try.underlying49
  go_enter Try.func34, Try.ntmps34
  go_wp2_with fail
  have hB0 : Below w.heap.size w (((w.alloc (.cells #[.slice pa pl pc, .slice ta tl tc] 45)).alloc (.cells #[.slice none 0 0, .slice none 0 0] 49)).alloc (.cells #[.slice none 0 0, .slice none 0 0] 49)) :=
    (((Below.refl _ _).alloc (Nat.le_refl _) _).alloc (by simp) _).alloc (by simp <;> omega) _
  have c1 : (((w.alloc (.cells #[.slice pa pl pc, .slice ta tl tc] 45)).alloc (.cells #[.slice none 0 0, .slice none 0 0] 49)).alloc (.cells #[.slice none 0 0, .slice none 0 0] 49)).cell? ⟨w.heap.size, 1, none⟩ = some (.slice ta tl tc) := by go_simp
  have cs0 : ∀ i, i < 2 → (((w.alloc (.cells #[.slice pa pl pc, .slice ta tl tc] 45)).alloc (.cells #[.slice none 0 0, .slice none 0 0] 49)).alloc (.cells #[.slice none 0 0, .slice none 0 0] 49)).cell? ⟨w.heap.size + 1 + 1, i, none⟩ = some (.slice none 0 0) := by
    intro i hi
    have : i = 0 ∨ i = 1 := by omega
    rcases this with rfl | rfl <;> go_simp
  have cr0 : ∀ i, i < 2 → (((w.alloc (.cells #[.slice pa pl pc, .slice ta tl tc] 45)).alloc (.cells #[.slice none 0 0, .slice none 0 0] 49)).alloc (.cells #[.slice none 0 0, .slice none 0 0] 49)).cell? ⟨w.heap.size + 1, i, none⟩ = some (.slice none 0 0) := by
    intro i hi
    have : i = 0 ∨ i = 1 := by omega
    rcases this with rfl | rfl <;> go_simp
  have fs0 : ∀ i, (((w.alloc (.cells #[.slice pa pl pc, .slice ta tl tc] 45)).alloc (.cells #[.slice none 0 0, .slice none 0 0] 49)).alloc (.cells #[.slice none 0 0, .slice none 0 0] 49)).frozen? ⟨w.heap.size + 1 + 1, i, none⟩ = false := by intro i; go_simp
  have fr0 : ∀ i, (((w.alloc (.cells #[.slice pa pl pc, .slice ta tl tc] 45)).alloc (.cells #[.slice none 0 0, .slice none 0 0] 49)).alloc (.cells #[.slice none 0 0, .slice none 0 0] 49)).frozen? ⟨w.heap.size + 1, i, none⟩ = false := by intro i; go_simp
  have hsz : (((w.alloc (.cells #[.slice pa pl pc, .slice ta tl tc] 45)).alloc (.cells #[.slice none 0 0, .slice none 0 0] 49)).alloc (.cells #[.slice none 0 0, .slice none 0 0] 49)).heap.size = w.heap.size + 1 + 1 + 1 := by simp
  generalize (((w.alloc (.cells #[.slice pa pl pc, .slice ta tl tc] 45)).alloc (.cells #[.slice none 0 0, .slice none 0 0] 49)).alloc (.cells #[.slice none 0 0, .slice none 0 0] 49)) = W at *
  obtain ⟨n, hn⟩ : ∃ n, n = w.heap.size := ⟨_, rfl⟩
  refine (laws_toVectorS _ _ _ _ _ (hP.out.below hB0) s1).mono ?_
  rintro e w1 ⟨rfl, hV, hB1, hS1⟩
  have lt0 : w.heap.size < W.heap.size := by rw [hsz]; omega
  have lt1 : w.heap.size + 1 < W.heap.size := by rw [hsz]; omega
  have lt2 : w.heap.size + 1 + 1 < W.heap.size := by rw [hsz]; omega
  have d1 : w1.cell? ⟨w.heap.size, 1, none⟩ = some (.slice ta tl tc) := by rw [hB1.cell (p := ⟨w.heap.size, 1, none⟩) lt0]; exact c1
  have d2 : w1.cell? ⟨w.heap.size + 1 + 1, 0, none⟩ = some (.slice none 0 0) := by rw [hB1.cell (p := ⟨w.heap.size + 1 + 1, 0, none⟩) lt2]; exact cs0 0 (by decide)
  have d3 : w1.cell? ⟨w.heap.size + 1 + 1, 1, none⟩ = some (.slice none 0 0) := by rw [hB1.cell (p := ⟨w.heap.size + 1 + 1, 1, none⟩) lt2]; exact cs0 1 (by decide)
  have d4 : w1.cell? ⟨w.heap.size + 1, 0, none⟩ = some (.slice none 0 0) := by rw [hB1.cell (p := ⟨w.heap.size + 1, 0, none⟩) lt1]; exact cr0 0 (by decide)
  have d5 : w1.cell? ⟨w.heap.size + 1, 1, none⟩ = some (.slice none 0 0) := by rw [hB1.cell (p := ⟨w.heap.size + 1, 1, none⟩) lt1]; exact cr0 1 (by decide)
  have g2 : w1.frozen? ⟨w.heap.size + 1 + 1, 0, none⟩ = false := by rw [hB1.frozen (p := ⟨w.heap.size + 1 + 1, 0, none⟩) lt2]; exact fs0 0
  have g3 : w1.frozen? ⟨w.heap.size + 1 + 1, 1, none⟩ = false := by rw [hB1.frozen (p := ⟨w.heap.size + 1 + 1, 1, none⟩) lt2]; exact fs0 1
  have g4 : w1.frozen? ⟨w.heap.size + 1, 0, none⟩ = false := by rw [hB1.frozen (p := ⟨w.heap.size + 1, 0, none⟩) lt1]; exact fr0 0
  have g5 : w1.frozen? ⟨w.heap.size + 1, 1, none⟩ = false := by rw [hB1.frozen (p := ⟨w.heap.size + 1, 1, none⟩) lt1]; exact fr0 1
  have hBW : Below w.heap.size w w1 := hB0.trans (hB1.mono (by rw [hsz]; omega))
  have hz : w.heap.size + 1 + 1 + 1 < w1.heap.size := by rw [← hsz]; exact hS1
  have HV := Lib.hid hV
  have HBW := Lib.hid hBW
  have HSZ := Lib.hid hsz
  generalize W.heap.size = B at *
  clear c1 cs0 cr0 fs0 fr0 hB0 hB1 hV hBW hsz lt0 lt1 lt2 hn
  go_wp2_with fail
  have hB2 : Below w.heap.size w (w1.setCell ⟨w.heap.size + 1 + 1, 0, none⟩ (.slice (some ⟨B, 0, none⟩) pl pl)) := HBW.out.setCell (by show w.heap.size ≤ w.heap.size + 1 + 1; omega) _
  have e2 := World.cell?_setCell_same w1 ⟨w.heap.size + 1 + 1, 0, none⟩ (.slice (some ⟨B, 0, none⟩) pl pl) d2
  have e3 : (w1.setCell ⟨w.heap.size + 1 + 1, 0, none⟩ (.slice (some ⟨B, 0, none⟩) pl pl)).cell? ⟨w.heap.size + 1 + 1, 1, none⟩ = some (.slice none 0 0) := by rw [World.cell?_setCell_other _ _ _ _ (by simp)]; exact d3
  have e4 : (w1.setCell ⟨w.heap.size + 1 + 1, 0, none⟩ (.slice (some ⟨B, 0, none⟩) pl pl)).cell? ⟨w.heap.size + 1, 0, none⟩ = some (.slice none 0 0) := by rw [World.cell?_setCell_other _ _ _ _ (by simp)]; exact d4
  have e5 : (w1.setCell ⟨w.heap.size + 1 + 1, 0, none⟩ (.slice (some ⟨B, 0, none⟩) pl pl)).cell? ⟨w.heap.size + 1, 1, none⟩ = some (.slice none 0 0) := by rw [World.cell?_setCell_other _ _ _ _ (by simp)]; exact d5
  have k3 : (w1.setCell ⟨w.heap.size + 1 + 1, 0, none⟩ (.slice (some ⟨B, 0, none⟩) pl pl)).frozen? ⟨w.heap.size + 1 + 1, 1, none⟩ = false := by simp; exact g3
  have k4 : (w1.setCell ⟨w.heap.size + 1 + 1, 0, none⟩ (.slice (some ⟨B, 0, none⟩) pl pl)).frozen? ⟨w.heap.size + 1, 0, none⟩ = false := by simp; exact g4
  have k5 : (w1.setCell ⟨w.heap.size + 1 + 1, 0, none⟩ (.slice (some ⟨B, 0, none⟩) pl pl)).frozen? ⟨w.heap.size + 1, 1, none⟩ = false := by simp; exact g5
  have hV2 : IsVs (w1.setCell ⟨w.heap.size + 1 + 1, 0, none⟩ (.slice (some ⟨B, 0, none⟩) pl pl)) (some ⟨B, 0, none⟩) pl pl cs := HV.out.set (by rw [HSZ.out]; show w.heap.size + 1 + 1 ≠ w.heap.size + 1 + 1 + 1; omega)
  have hsz2 : (w1.setCell ⟨w.heap.size + 1 + 1, 0, none⟩ (.slice (some ⟨B, 0, none⟩) pl pl)).heap.size = w1.heap.size := by simp
  clear d1 d2 d3 d4 d5 g2 g3 g4 g5
  generalize (w1.setCell ⟨w.heap.size + 1 + 1, 0, none⟩ (.slice (some ⟨B, 0, none⟩) pl pl)) = W2 at *
  have lt1 : w.heap.size + 1 < W2.heap.size := by rw [hsz2]; omega
  have lt2 : w.heap.size + 1 + 1 < W2.heap.size := by rw [hsz2]; omega
  refine (laws_toInt64SS _ _ _ _ _ (hT.out.below hB2) s2 hS3.out).mono ?_
  rintro e w3 ⟨rfl, hT3, hB3, hS3'⟩
  have d2 : w3.cell? ⟨w.heap.size + 1 + 1, 0, none⟩ = some (.slice (some ⟨B, 0, none⟩) pl pl) := by rw [hB3.cell (p := ⟨w.heap.size + 1 + 1, 0, none⟩) lt2]; exact e2
  have d3 : w3.cell? ⟨w.heap.size + 1 + 1, 1, none⟩ = some (.slice none 0 0) := by rw [hB3.cell (p := ⟨w.heap.size + 1 + 1, 1, none⟩) lt2]; exact e3
  have d4 : w3.cell? ⟨w.heap.size + 1, 0, none⟩ = some (.slice none 0 0) := by rw [hB3.cell (p := ⟨w.heap.size + 1, 0, none⟩) lt1]; exact e4
  have d5 : w3.cell? ⟨w.heap.size + 1, 1, none⟩ = some (.slice none 0 0) := by rw [hB3.cell (p := ⟨w.heap.size + 1, 1, none⟩) lt1]; exact e5
  have g3 : w3.frozen? ⟨w.heap.size + 1 + 1, 1, none⟩ = false := by rw [hB3.frozen (p := ⟨w.heap.size + 1 + 1, 1, none⟩) lt2]; exact k3
  have g4 : w3.frozen? ⟨w.heap.size + 1, 0, none⟩ = false := by rw [hB3.frozen (p := ⟨w.heap.size + 1, 0, none⟩) lt1]; exact k4
  have g5 : w3.frozen? ⟨w.heap.size + 1, 1, none⟩ = false := by rw [hB3.frozen (p := ⟨w.heap.size + 1, 1, none⟩) lt1]; exact k5
  have HV3 := Lib.hid (hV2.below hB3)
  have HT3 := Lib.hid hT3
  have HB3 := Lib.hid (hB2.trans (hB3.mono (by rw [hsz2]; omega)))
  have HSZ2 := Lib.hid hsz2
  have HZ := Lib.hid hz
  generalize W2.heap.size = B2 at *
  clear hV2 hT3 hB3 hB2 e2 e3 e4 e5 k3 k4 k5 hsz2 lt1 lt2 hz hS1 hS3'
  go_wp2
  have x0 : ∀ u, ((w3.setCell ⟨w.heap.size + 1 + 1, 1, none⟩ u).cell? ⟨w.heap.size + 1, 0, none⟩) = some (.slice none 0 0) := fun u => by rw [World.cell?_setCell_other _ _ _ _ (by simp)]; exact d4
  have x1 : ∀ u v, (((w3.setCell ⟨w.heap.size + 1 + 1, 1, none⟩ u).setCell ⟨w.heap.size + 1, 0, none⟩ v).cell? ⟨w.heap.size + 1, 1, none⟩) = some (.slice none 0 0) := fun u v => by rw [World.cell?_setCell_other _ _ _ _ (by simp), World.cell?_setCell_other _ _ _ _ (by simp)]; exact d5
  have r1 : ∀ u v t, ((((w3.setCell ⟨w.heap.size + 1 + 1, 1, none⟩ u).setCell ⟨w.heap.size + 1, 0, none⟩ v).setCell ⟨w.heap.size + 1, 1, none⟩ t).cell? ⟨w.heap.size + 1, 1, none⟩) = some t := fun u v t => World.cell?_setCell_same _ _ _ (x1 u v)
  have r0 : ∀ u v t, ((((w3.setCell ⟨w.heap.size + 1 + 1, 1, none⟩ u).setCell ⟨w.heap.size + 1, 0, none⟩ v).setCell ⟨w.heap.size + 1, 1, none⟩ t).cell? ⟨w.heap.size + 1, 0, none⟩) = some v := fun u v t => by rw [World.cell?_setCell_other _ _ _ _ (by simp)]; exact World.cell?_setCell_same _ _ _ (x0 u)
  have hB := HSZ.out
  have hB2 := HSZ2.out
  have hz := HZ.out
  have n1 : ∀ z, (.slice none 0 0 : Value) ≠ .int .i64 z := fun z h => by cases h
  refine bodyPost_ret (v := .agg #[.slice (some ⟨B, 0, none⟩) pl pl, .slice (some ⟨B2, 0, none⟩) tl tl]) (by simp [results, Try.results34, go_sem, r0, r1]) rfl ⟨⟨B, B2, rfl, by omega, by omega, ?_, ?_⟩, ?_⟩
  · exact ((HV3.out.set (by show w.heap.size + 1 + 1 ≠ B; omega)).set (by show w.heap.size + 1 ≠ B; omega)).set (by show w.heap.size + 1 ≠ B; omega)
  · exact ((HT3.out.setN (by show w.heap.size + 1 + 1 ≠ B2; omega) d3 n1).setN (by show w.heap.size + 1 ≠ B2; omega) (x0 _) n1).setN (by show w.heap.size + 1 ≠ B2; omega) (x1 _ _) n1
  · exact ((HB3.out.setCell (by show w.heap.size ≤ w.heap.size + 1 + 1; omega) _).setCell (by show w.heap.size ≤ w.heap.size + 1; omega) _).setCell (by show w.heap.size ≤ w.heap.size + 1; omega) _
end Go.Proofs.Ytcgnmnbjgamedaa

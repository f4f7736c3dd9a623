/-
Texts in one: what StfS stands on, part 1. Conditions: those of each.
-/
import Derived.Test.YtabccmobmppdnaaGreatKStfS0
import Derived.Below
import Derived.LoopTactic
import Derived.IntWalk
import Derived.Laws.MakeOwn
-- halved
namespace Go.Proofs.YtabccmobmppdnaaGreat
open Go Fk Go.RowKit
set_option linter.unusedVariables false
set_option maxRecDepth 8000
abbrev sv (a b : Int) (x y : Nat) : Value := .agg #[.int .i64 a, .int .i64 b, .float .f32 x, .float .f32 y]
theorem laws_szSpringS (a : Option Addr) (len cap : Nat) (left : Int) (w : World) (h0 : 0 ≤ left) (h1 : left ≤ 1048576) (h2 : len ≤ 9223372036854775807) :
  Calls Tryz.prog 62 #[.slice a len cap, .int .i64 left] w fun e w' => (∃ r : Int, e = .returned (.int .i64 r) ∧ (r = -1 ∨ (0 ≤ r ∧ r ≤ 1048576 ∧ len ≤ 1048576))) ∧ w' = w := by
 by_cases h : left < len
 ·go_enter Tryz.func62, Tryz.ntmps62
  go_wp2
  go_ret
  exact ⟨⟨-1, rfl, .inl rfl⟩, rfl⟩
 ·go_enter Tryz.func62, Tryz.ntmps62
  go_wp2
  go_ret
  exact ⟨⟨_, rfl, .inr ⟨by omega, by omega, by omega⟩⟩, rfl⟩
theorem laws_szFloat32S (a : Option Addr) (len cap : Nat) (left : Int) (w : World) (h0 : 0 ≤ left) (h1 : left ≤ 1048576) (h2 : len ≤ 9223372036854775807) :
  Calls Tryz.prog 63 #[.slice a len cap, .int .i64 left] w fun e w' => (∃ r : Int, e = .returned (.int .i64 r) ∧ (r = -1 ∨ (0 ≤ r ∧ r ≤ 1048576 ∧ len ≤ 1048576))) ∧ w' = w := by
 by_cases h : left < len
 ·go_enter Tryz.func63, Tryz.ntmps63
  go_wp2
  go_ret
  exact ⟨⟨-1, rfl, .inl rfl⟩, rfl⟩
 ·go_enter Tryz.func63, Tryz.ntmps63
  go_wp2
  go_ret
  exact ⟨⟨_, rfl, .inr ⟨by omega, by omega, by omega⟩⟩, rfl⟩
theorem laws_szMesh' (pa ta : Option Addr) (pl pc tl tc : Nat) (cs : List C3) (ts : List (List Int)) (left : Int) (w : World) (hp : IsVs w pa pl pc cs) (ht : IsTs w ta tl tc ts) (h0 : 0 ≤ left) (h1 : left ≤ 1048576) :
  Calls Tryz.prog 61 #[.agg #[.slice pa pl pc, .slice ta tl tc], .int .i64 left] w fun e w' => (∃ r : Int, e = .returned (.int .i64 r) ∧ (r = -1 ∨ (0 ≤ r ∧ r ≤ 1048576 ∧ pl ≤ 1048576 ∧ tl ≤ 1048576 ∧ ∀ k, k < tl → (ts.getD k []).length ≤ 1048576))) ∧ Below w.heap.size w w' := by
 have hpm : pl ≤ 9223372036854775807 := by have h1 := hp.2.1; have h2 := hp.2.2.1; unfold maxLen at h2; omega
 have u := Tryz.underlying25
 go_enter Tryz.func61, Tryz.ntmps61
 go_wp2_with (go_at_call 16; refine (laws_szVectorS _ _ _ _ _ h0 h1 hpm).mono ?_; rintro e w1 ⟨⟨r, rfl, hr⟩, hw1⟩; rw [hw1]; clear hw1 w1; rcases hr with rfl | ⟨hr2, hr3, hn3⟩)
 ·go_ret
  exact ⟨⟨-1, rfl, .inl rfl⟩, (Below.refl _ _).alloc (Nat.le_refl _) _⟩
 ·have hb : Below w.heap.size w (w.alloc (.cells #[.slice pa pl pc, .slice ta tl tc] 25)) := (Below.refl _ _).alloc (Nat.le_refl _) _
  have ht' := ht.below hb
  go_wp2_with (go_at_call 121; refine (laws_szInt64SS _ _ _ _ _ _ ht' hr2 hr3).mono ?_; rintro e w1 ⟨⟨r', rfl, hr'⟩, hw1⟩; rw [hw1]; clear hw1 w1; rcases hr' with rfl | ⟨hr4, hr5, hn5, hn6⟩)
  ·go_ret
   exact ⟨⟨-1, rfl, .inl rfl⟩, hb⟩
  ·have HN := Lib.hid hn6
   clear hn6
   go_wp2
   go_ret
   exact ⟨⟨_, rfl, .inr ⟨hr4, hr5, hn3, hn5, HN.out⟩⟩, hb⟩
theorem laws_toSpring (a b : Int) (x y : Nat) (w : World) :
  Calls Tryz.prog 126 #[sv a b x y] w fun en w' => en = .returned (sv a b x y) ∧ Below w.heap.size w w' := by
 have u := Tryz.underlying27
 have ui := Tryz.underlying2
 have ul := Tryz.underlying168
 have uv := Tryz.underlying166
 go_enter Tryz.func126, Tryz.ntmps126
 go_wp2
 refine bodyPost_ret (v := sv a b x y) (by simp [results, Tryz.results126, go_sem]) rfl ⟨rfl, ?_⟩
 exact (((Below.refl _ _).alloc (Nat.le_refl _) _).alloc (by simp) _).alloc (by simp; omega) _
theorem laws_eqSpring (a b : Int) (x y x' y' : Nat) (w : World) (c d : Option Nat) (h1 : FV .f32 x c) (h2 : FV .f32 y d) (h1' : FV .f32 x' c) (h2' : FV .f32 y' d) :
  Calls Tryz.prog 132 #[sv a b x y, sv a b x' y'] w fun en w' => en = .returned (.bool true) ∧ Below w.heap.size w w' := by
 have u := Tryz.underlying27
 have u' := Tryz.underlying58
 have ui := Tryz.underlying2
 have uv := Tryz.underlying166
 go_enter Tryz.func132, Tryz.ntmps132
 go_wp2_with (go_at_call 31; refine (laws_sameFloat _ _ _ _ (FV_wR (by assumption)) (FV_wR (by assumption))).mono ?_; rintro en w' ⟨rfl, n1, rfl⟩)
 go_ret
 exact ⟨rfl, below_drewN (((Below.refl _ _).alloc (Nat.le_refl _) _).alloc (by simp) _) _⟩
theorem infoSp : (Tryz.prog.info? 166).map (fun i => (i.zero, i.size, i.bytes)) = some (some (.agg #[.int .i64 0, .int .i64 0, .float .f32 0, .float .f32 0]), 4, 24) := by kernel_rfl
theorem set4k {w : World} {n o : Nat} {u v t s u0 v0 t0 s0 : Value} (h0 : w.cell? ⟨n, o, none⟩ = some u0) (h1 : w.cell? ⟨n, o + 1, none⟩ = some v0) (h2 : w.cell? ⟨n, o + 2, none⟩ = some t0) (h3 : w.cell? ⟨n, o + 3, none⟩ = some s0) :
  ((((w.setCell ⟨n, o, none⟩ u).setCell ⟨n, o + 1, none⟩ v).setCell ⟨n, o + 2, none⟩ t).setCell ⟨n, o + 3, none⟩ s).cell? ⟨n, o, none⟩ = some u ∧ ((((w.setCell ⟨n, o, none⟩ u).setCell ⟨n, o + 1, none⟩ v).setCell ⟨n, o + 2, none⟩ t).setCell ⟨n, o + 3, none⟩ s).cell? ⟨n, o + 1, none⟩ = some v ∧
  ((((w.setCell ⟨n, o, none⟩ u).setCell ⟨n, o + 1, none⟩ v).setCell ⟨n, o + 2, none⟩ t).setCell ⟨n, o + 3, none⟩ s).cell? ⟨n, o + 2, none⟩ = some t ∧ ((((w.setCell ⟨n, o, none⟩ u).setCell ⟨n, o + 1, none⟩ v).setCell ⟨n, o + 2, none⟩ t).setCell ⟨n, o + 3, none⟩ s).cell? ⟨n, o + 3, none⟩ = some s ∧
  ∀ j, j ≠ o → j ≠ o + 1 → j ≠ o + 2 → j ≠ o + 3 → ((((w.setCell ⟨n, o, none⟩ u).setCell ⟨n, o + 1, none⟩ v).setCell ⟨n, o + 2, none⟩ t).setCell ⟨n, o + 3, none⟩ s).cell? ⟨n, j, none⟩ = w.cell? ⟨n, j, none⟩ := by
 obtain ⟨e0, e1, e2, eo⟩ := set3k (u := u) (v := v) (t := t) h0 h1 h2
 have e3 := (eo (o + 3) (by omega) (by omega) (by omega)).trans h3
 refine ⟨?_, ?_, ?_, World.cell?_setCell_same _ _ _ e3, fun j j0 j1 j2 j3 => ?_⟩
 ·rw [World.cell?_setCell_other _ _ _ _ (by simp)]; exact e0
 ·rw [World.cell?_setCell_other _ _ _ _ (by simp)]; exact e1
 ·rw [World.cell?_setCell_other _ _ _ _ (by simp)]; exact e2
 ·rw [World.cell?_setCell_other _ _ _ _ (by simp <;> omega)]; exact eo j j0 j1 j2
set_option maxHeartbeats 400000 in
theorem laws_toSpringSO (a : Option Addr) (len cap : Nat) (ss : List SC) (w : World) (h : IsSs w a len cap ss) (hlen : len ≤ 1048576) :
  Calls Tryz.prog 68 #[.slice a len cap] w fun e w' => e = .returned (.slice (some ⟨w.heap.size, 0, none⟩) len len) ∧ IsSs w' (some ⟨w.heap.size, 0, none⟩) len len ss ∧ Below w.heap.size w w' ∧ w.heap.size < w'.heap.size ∧ ∀ i, w'.frozen? ⟨w.heap.size, i, none⟩ = false := by
 have uv := Tryz.underlying166
 have ul := Tryz.underlying168
 have u := Tryz.underlying27
 have ui := Tryz.underlying2
 obtain ⟨i0, hi, hz0, hz1, hz2⟩ := info_parts infoSp
 have hzl := h.1
 have hwf := h.2.2.2.1
 obtain ⟨g, hg⟩ : ∃ g, g = w.heap.size := ⟨_, rfl⟩
 have hmk : (Instr.makeSlice 41 (.int .i64 len) (.int .i64 len)).run Tryz.prog w = .ok (.slice (some ⟨g, 0, none⟩) len len) (w.alloc (.cells (madeCells #[.int .i64 0, .int .i64 0, .float .f32 0, .float .f32 0] (len * 4)) 166)) := by
  have := run_make (P := Tryz.prog) w 41 166 i0 (.agg #[.int .i64 0, .int .i64 0, .float .f32 0, .float .f32 0]) Tryz.underlying41 hi hz0 .i64 .i64 len len (by omega) (Int.le_refl _) (by rw [hz2]; omega) (by omega)
  rw [this, hz1, hg]; simp; rfl
 have hstart : Below w.heap.size w (w.alloc (.cells (madeCells #[.int .i64 0, .int .i64 0, .float .f32 0, .float .f32 0] (len * 4)) 166)) ∧ g < (w.alloc (.cells (madeCells #[.int .i64 0, .int .i64 0, .float .f32 0, .float .f32 0] (len * 4)) 166)).heap.size ∧
   (∀ j, j < len * 4 → ∃ v, (w.alloc (.cells (madeCells #[.int .i64 0, .int .i64 0, .float .f32 0, .float .f32 0] (len * 4)) 166)).cell? ⟨g, j, none⟩ = some v) ∧ (∀ j, (w.alloc (.cells (madeCells #[.int .i64 0, .int .i64 0, .float .f32 0, .float .f32 0] (len * 4)) 166)).frozen? ⟨g, j, none⟩ = false) := by
  subst hg
  exact ⟨(Below.refl _ _).alloc (Nat.le_refl _) _, by simp, fun j hj => made_cell3 w _ (len * 4) j _ hj, fun j => by simp⟩
 rw [← hg] at hstart ⊢
 have HST := Lib.hid hstart
 have HG := Lib.hid hg
 have HWF := Lib.hid hwf
 clear hstart hg hwf
 go_enter Tryz.func68, Tryz.ntmps68
 go_wp2
 generalize hw0 : w.alloc (.cells (madeCells #[.int .i64 0, .int .i64 0, .float .f32 0, .float .f32 0] (len * 4)) 166) = w0 at HST ⊢
 go_loopw [4] (fun i w' => ∃ k : Nat, k ≤ len ∧ i = .int .i64 k ∧ Aside ((Below g w w' ∧ g < w'.heap.size ∧ (∀ j, j < len * 4 → ∃ v, w'.cell? ⟨g, j, none⟩ = some v) ∧ (∀ j, w'.frozen? ⟨g, j, none⟩ = false)) ∧
   ∀ j, j < k → ∃ p q, w'.cell? ⟨g, j * 4, none⟩ = some (.int .i64 (ss.getD j s0).1) ∧ w'.cell? ⟨g, j * 4 + 1, none⟩ = some (.int .i64 (ss.getD j s0).2.1) ∧ w'.cell? ⟨g, j * 4 + 2, none⟩ = some (.float .f32 p) ∧ w'.cell? ⟨g, j * 4 + 3, none⟩ = some (.float .f32 q) ∧ FV .f32 p (ss.getD j s0).2.2.1 ∧ FV .f32 q (ss.getD j s0).2.2.2)) (fun i _ => len - (intOf i).toNat)
 case atStart => exact ⟨0, Nat.zero_le _, rfl, HST.out, fun j hj => absurd hj (by omega)⟩
 case round =>
  obtain ⟨k, hk, rfl, hA⟩ := hrel
  by_cases hlt : k < len
  ·obtain ⟨⟨hB, hgs, hce, hfz⟩, hdone⟩ := hA.out
   have h' := h.below (HG.out ▸ hB)
   obtain ⟨b, o, rfl, hcell⟩ := h'.some (by omega)
   obtain ⟨p, q, hp0, hp1, hp, hq, fp, fq⟩ := hcell k hlt
   obtain ⟨ua, hua⟩ : ∃ ua, ua = (ss.getD k s0).1 := ⟨_, rfl⟩
   obtain ⟨ub, hub⟩ : ∃ ub, ub = (ss.getD k s0).2.1 := ⟨_, rfl⟩
   rw [← hua] at hp0
   rw [← hub] at hp1
   have HU := Lib.hid (And.intro hua hub)
   have HFP := Lib.hid (And.intro fp fq)
   clear hua hub fp fq
   have hk0 : (0 : Int) ≤ (k : Int) := by omega
   have hk1 : (k : Int) < (len : Int) := by omega
   have hf0 := hfz (k * 4)
   have hf1 := hfz (k * 4 + 1)
   have hf2 := hfz (k * 4 + 2)
   have hf3 := hfz (k * 4 + 3)
   obtain ⟨v0, hv0⟩ := hce (k * 4) (by omega)
   obtain ⟨v1, hv1⟩ := hce (k * 4 + 1) (by omega)
   obtain ⟨v2, hv2⟩ := hce (k * 4 + 2) (by omega)
   obtain ⟨v3, hv3⟩ := hce (k * 4 + 3) (by omega)
   have HD := Lib.hid hdone
   have HC := Lib.hid hce
   have HF := Lib.hid hfz
   have HB := Lib.hid hB
   clear hA hcell h' hdone hce hfz hB h
   go_wp2_with fail
   refine (laws_toSpring _ _ _ _ _).mono ?_
   rintro e w1 ⟨rfl, hB1⟩
   have hv0' : w1.cell? ⟨g, k * 4, none⟩ = some v0 := by rw [hB1.cell (p := ⟨g, k * 4, none⟩) hgs]; exact hv0
   have hv1' : w1.cell? ⟨g, k * 4 + 1, none⟩ = some v1 := by rw [hB1.cell (p := ⟨g, k * 4 + 1, none⟩) hgs]; exact hv1
   have hv2' : w1.cell? ⟨g, k * 4 + 2, none⟩ = some v2 := by rw [hB1.cell (p := ⟨g, k * 4 + 2, none⟩) hgs]; exact hv2
   have hv3' : w1.cell? ⟨g, k * 4 + 3, none⟩ = some v3 := by rw [hB1.cell (p := ⟨g, k * 4 + 3, none⟩) hgs]; exact hv3
   have hf0' : w1.frozen? ⟨g, k * 4, none⟩ = false := by rw [hB1.frozen (p := ⟨g, k * 4, none⟩) hgs]; exact hf0
   have hf1' : w1.frozen? ⟨g, k * 4 + 1, none⟩ = false := by rw [hB1.frozen (p := ⟨g, k * 4 + 1, none⟩) hgs]; exact hf1
   have hf2' : w1.frozen? ⟨g, k * 4 + 2, none⟩ = false := by rw [hB1.frozen (p := ⟨g, k * 4 + 2, none⟩) hgs]; exact hf2
   have hf3' : w1.frozen? ⟨g, k * 4 + 3, none⟩ = false := by rw [hB1.frozen (p := ⟨g, k * 4 + 3, none⟩) hgs]; exact hf3
   have HB1 := Lib.hid hB1
   clear hB1
   go_wp2
   go_roundw
   case rel =>
    have hB1 := HB1.out
    obtain ⟨e0, e1, e2, e3, eo⟩ := set4k (u := .int .i64 ua) (v := .int .i64 ub) (t := .float .f32 p) (s := .float .f32 q) hv0' hv1' hv2' hv3'
    refine ⟨k + 1, by omega, by go_num, ⟨⟨((((HB.out.trans (hB1.mono (by omega))).setCell (Nat.le_refl _) _).setCell (Nat.le_refl _) _).setCell (Nat.le_refl _) _).setCell (Nat.le_refl _) _, by simp <;> (have := hB1.size; omega), fun j hj => ?_, fun j => ?_⟩, fun j hj => ?_⟩⟩
    ·by_cases h0 : j = k * 4
     ·subst h0; exact ⟨_, e0⟩
     ·by_cases h1 : j = k * 4 + 1
      ·subst h1; exact ⟨_, e1⟩
      ·by_cases h2 : j = k * 4 + 2
       ·subst h2; exact ⟨_, e2⟩
       ·by_cases h3 : j = k * 4 + 3
        ·subst h3; exact ⟨_, e3⟩
        ·obtain ⟨v, hv⟩ := HC.out j hj
         exact ⟨v, by rw [eo j h0 h1 h2 h3, hB1.cell (p := ⟨g, j, none⟩) hgs]; exact hv⟩
    ·simp; rw [hB1.frozen (p := ⟨g, j, none⟩) hgs]; exact HF.out j
    ·by_cases hjk : j = k
     ·subst hjk; rw [← HU.out.1, ← HU.out.2]; exact ⟨p, q, e0, e1, e2, e3, HFP.out.1, HFP.out.2⟩
     ·obtain ⟨p', q', k0, k1, k2, k3, hv⟩ := HD.out j (by omega)
      exact ⟨p', q', by rw [eo _ (by omega) (by omega) (by omega) (by omega), hB1.cell (p := ⟨g, j * 4, none⟩) hgs]; exact k0, by rw [eo _ (by omega) (by omega) (by omega) (by omega), hB1.cell (p := ⟨g, j * 4 + 1, none⟩) hgs]; exact k1,
       by rw [eo _ (by omega) (by omega) (by omega) (by omega), hB1.cell (p := ⟨g, j * 4 + 2, none⟩) hgs]; exact k2, by rw [eo _ (by omega) (by omega) (by omega) (by omega), hB1.cell (p := ⟨g, j * 4 + 3, none⟩) hgs]; exact k3, hv⟩
   case measure => simp [intOf]; omega
  ·obtain rfl : k = len := by omega
   obtain ⟨⟨hB, hgs, hce, hfz⟩, hdone⟩ := hA.out
   have hfin : IsSs wr (some ⟨g, 0, none⟩) k k ss := by
    refine ⟨hzl, Nat.le_refl _, by unfold maxLen; omega, HWF.out, by simp, fun x hx i hi => ?_⟩
    cases hx
    obtain ⟨p, q, k0, k1, k2, k3, hv⟩ := hdone i hi
    exact ⟨p, q, by rw [addr_add', Nat.zero_add]; exact k0, by rw [addr_add', Nat.zero_add]; exact k1, by rw [addr_add', Nat.zero_add]; exact k2, by rw [addr_add', Nat.zero_add]; exact k3, hv⟩
   have HF := Lib.hid hfin
   have HB := Lib.hid hB
   have HFZ := Lib.hid hfz
   clear hA hB hce hfz hdone hfin h
   go_wp2
   go_ret
   exact ⟨rfl, HF.out, HB.out, hgs, HFZ.out⟩
theorem laws_toSpringS (a : Option Addr) (len cap : Nat) (ss : List SC) (w : World) (h : IsSs w a len cap ss) (hlen : len ≤ 1048576) :
  Calls Tryz.prog 68 #[.slice a len cap] w fun e w' => e = .returned (.slice (some ⟨w.heap.size, 0, none⟩) len len) ∧ IsSs w' (some ⟨w.heap.size, 0, none⟩) len len ss ∧ Below w.heap.size w w' ∧ w.heap.size < w'.heap.size :=
 (laws_toSpringSO a len cap ss w h hlen).mono fun _ _ h => ⟨h.1, h.2.1, h.2.2.1, h.2.2.2.1⟩
theorem _root_.Go.Proofs.YtabccmobmppdnaaGreat.Fk.IsSs.set {w : World} {a : Addr} {v : Value} {b len cap : Nat} {o : Nat} {ss : List SC} (h : IsSs w (some ⟨b, o, none⟩) len cap ss) (hne : a.block ≠ b) : IsSs (w.setCell a v) (some ⟨b, o, none⟩) len cap ss := by
 obtain ⟨h1, h2, h3, h4, h5, h6⟩ := h
 have ne : ∀ j, a ≠ ⟨b, j, none⟩ := fun j h => hne (by rw [h])
 refine ⟨h1, h2, h3, h4, h5, fun x hx i hi => ?_⟩
 obtain ⟨p, q, k0, k1, k2, k3, hv⟩ := h6 x hx i hi
 cases hx
 rw [addr_add'] at k0 k1 k2 k3
 refine ⟨p, q, ?_, ?_, ?_, ?_, hv⟩
 ·rw [addr_add', World.cell?_setCell_other _ _ _ _ (ne _)]; exact k0
 ·rw [addr_add', World.cell?_setCell_other _ _ _ _ (ne _)]; exact k1
 ·rw [addr_add', World.cell?_setCell_other _ _ _ _ (ne _)]; exact k2
 ·rw [addr_add', World.cell?_setCell_other _ _ _ _ (ne _)]; exact k3
set_option maxHeartbeats 1000000 in
theorem laws_eqSpringS (a b : Option Addr) (len cap cap' : Nat) (ss : List SC) (w : World) (ha : IsSs w a len cap ss) (hb : IsSs w b len cap' ss) :
  Calls Tryz.prog 75 #[.slice a len cap, .slice b len cap'] w fun e w' => e = .returned (.bool true) ∧ Below w.heap.size w w' := by
 have hm : len ≤ 9223372036854775807 := by have h1 := ha.2.1; have h2 := ha.2.2.1; unfold maxLen at h2; omega
 have uv := Tryz.underlying166
 have hzl := ha.1
 go_enter Tryz.func75, Tryz.ntmps75
 go_wp2
 go_loopw [5] (fun i w' => ∃ k : Nat, k ≤ len ∧ i = .int .i64 k ∧ Below w.heap.size w w') (fun i _ => len - (intOf i).toNat)
 case atStart => exact ⟨0, Nat.zero_le _, rfl, Below.refl _ _⟩
 case round =>
  obtain ⟨k, hk, rfl, hB⟩ := hrel
  by_cases hlt : k < len
  ·obtain ⟨b1, o1, rfl, hcell1⟩ := (ha.below hB).some (by omega)
   obtain ⟨b2, o2, rfl, hcell2⟩ := (hb.below hB).some (by omega)
   obtain ⟨p1, q1, c11, c12, c13, c14, f11, f12⟩ := hcell1 k hlt
   obtain ⟨p2, q2, c21, c22, c23, c24, f21, f22⟩ := hcell2 k hlt
   generalize ss.getD k s0 = z at *
   have HB := Lib.hid hB
   clear hcell1 hcell2 hzl ha hb hB
   have hk0 : (0 : Int) ≤ (k : Int) := by omega
   have hk1 : (k : Int) < (len : Int) := by omega
   go_wp2_with fail
   refine Reg.wp_region_mix (C := fun w' => (w'.cell? ⟨b1, o1 + k * 4, none⟩ = some (.int .i64 z.1) ∧ w'.cell? ⟨b1, o1 + k * 4 + 1, none⟩ = some (.int .i64 z.2.1) ∧ w'.cell? ⟨b1, o1 + k * 4 + 2, none⟩ = some (.float .f32 p1) ∧ w'.cell? ⟨b1, o1 + k * 4 + 3, none⟩ = some (.float .f32 q1) ∧ w'.cell? ⟨b2, o2 + k * 4, none⟩ = some (.int .i64 z.1) ∧ w'.cell? ⟨b2, o2 + k * 4 + 1, none⟩ = some (.int .i64 z.2.1) ∧ w'.cell? ⟨b2, o2 + k * 4 + 2, none⟩ = some (.float .f32 p2) ∧ w'.cell? ⟨b2, o2 + k * 4 + 3, none⟩ = some (.float .f32 q2)) ∧ Below wr.heap.size wr w') (G := fun _ _ => True) (R := fun i v _ => match i with | 0 => v = .slice (some ⟨b1, o1, none⟩) len cap | 1 => v = .int .i64 k | 2 => v = .pointer (some ⟨b1, o1 + k * 4, none⟩) | 3 => v = sv z.1 z.2.1 p1 q1 | 4 => v = .slice (some ⟨b2, o2, none⟩) len cap' | 5 => v = .int .i64 k | 6 => v = .pointer (some ⟨b2, o2 + k * 4, none⟩) | 7 => v = sv z.1 z.2.1 p2 q2 | 8 => v = .bool true | 9 => v = .bool false | _ => True) (T := fun _ _ _ => True) [false, false, false, false, false, false, false, false, false, false, false, false, false, false, false, false, false, true, true, true, true, true, true, true, true, true, true]
    (by kernel_rfl) (by kernel_rfl) (by kernel_rfl) (fun _ _ _ _ _ _ h => h) ⟨⟨c11, c12, c13, c14, c21, c22, c23, c24⟩, below_drewN (Below.refl _ _) 1⟩ ?_ ?_
   ·refine ⟨Reg.Obl.mk ?_, Reg.Obl.mk ?_, Reg.Obl.mk ?_, Reg.Obl.mk ?_, Reg.Obl.mk ?_, Reg.Obl.mk ?_, Reg.Obl.mk ?_, Reg.Obl.mk ?_, Reg.Obl.mk ?_, Reg.Obl.mk ?_, trivial⟩
    ·rintro a w1 ⟨⟨d11, d12, d13, d14, d21, d22, d23, d24⟩, hB⟩ hx hd K hK
     have t0 : a.tmps[0]?.getD undef = .slice (some ⟨b1, o1, none⟩) len cap := Reg.slot_val (hx 0 (by kernel_rfl))
     go_simp
     exact hK _ _ (fun _ => rfl) (fun h => by cases h) ⟨⟨d11, d12, d13, d14, d21, d22, d23, d24⟩, hB⟩ trivial
    ·rintro a w1 ⟨⟨d11, d12, d13, d14, d21, d22, d23, d24⟩, hB⟩ hx hd K hK
     have t5 : a.tmps[5]?.getD undef = .int .i64 k := Reg.slot_val (hx 5 (by kernel_rfl))
     go_simp
     exact hK _ _ (fun _ => rfl) (fun h => by cases h) ⟨⟨d11, d12, d13, d14, d21, d22, d23, d24⟩, hB⟩ trivial
    ·rintro a w1 ⟨⟨d11, d12, d13, d14, d21, d22, d23, d24⟩, hB⟩ hx hd K hK
     have t17 : a.tmps[17]?.getD undef = .slice (some ⟨b1, o1, none⟩) len cap := Reg.slot_val (hd 0 (by kernel_rfl) 17 rfl)
     have t18 : a.tmps[18]?.getD undef = .int .i64 k := Reg.slot_val (hd 1 (by kernel_rfl) 18 rfl)
     go_simp
     exact hK _ _ (fun _ => rfl) (fun h => by cases h) ⟨⟨d11, d12, d13, d14, d21, d22, d23, d24⟩, hB⟩ trivial
    ·rintro a w1 ⟨⟨d11, d12, d13, d14, d21, d22, d23, d24⟩, hB⟩ hx hd K hK
     have t19 : a.tmps[19]?.getD undef = .pointer (some ⟨b1, o1 + k * 4, none⟩) := Reg.slot_val (hd 2 (by kernel_rfl) 19 rfl)
     go_simp
     exact hK _ _ (fun _ => rfl) (fun h => by cases h) ⟨⟨d11, d12, d13, d14, d21, d22, d23, d24⟩, hB⟩ trivial
    ·rintro a w1 ⟨⟨d11, d12, d13, d14, d21, d22, d23, d24⟩, hB⟩ hx hd K hK
     have t1 : a.tmps[1]?.getD undef = .slice (some ⟨b2, o2, none⟩) len cap' := Reg.slot_val (hx 1 (by kernel_rfl))
     go_simp
     exact hK _ _ (fun _ => rfl) (fun h => by cases h) ⟨⟨d11, d12, d13, d14, d21, d22, d23, d24⟩, hB⟩ trivial
    ·rintro a w1 ⟨⟨d11, d12, d13, d14, d21, d22, d23, d24⟩, hB⟩ hx hd K hK
     have t5 : a.tmps[5]?.getD undef = .int .i64 k := Reg.slot_val (hx 5 (by kernel_rfl))
     go_simp
     exact hK _ _ (fun _ => rfl) (fun h => by cases h) ⟨⟨d11, d12, d13, d14, d21, d22, d23, d24⟩, hB⟩ trivial
    ·rintro a w1 ⟨⟨d11, d12, d13, d14, d21, d22, d23, d24⟩, hB⟩ hx hd K hK
     have t21 : a.tmps[21]?.getD undef = .slice (some ⟨b2, o2, none⟩) len cap' := Reg.slot_val (hd 4 (by kernel_rfl) 21 rfl)
     have t22 : a.tmps[22]?.getD undef = .int .i64 k := Reg.slot_val (hd 5 (by kernel_rfl) 22 rfl)
     go_simp
     exact hK _ _ (fun _ => rfl) (fun h => by cases h) ⟨⟨d11, d12, d13, d14, d21, d22, d23, d24⟩, hB⟩ trivial
    ·rintro a w1 ⟨⟨d11, d12, d13, d14, d21, d22, d23, d24⟩, hB⟩ hx hd K hK
     have t23 : a.tmps[23]?.getD undef = .pointer (some ⟨b2, o2 + k * 4, none⟩) := Reg.slot_val (hd 6 (by kernel_rfl) 23 rfl)
     go_simp
     exact hK _ _ (fun _ => rfl) (fun h => by cases h) ⟨⟨d11, d12, d13, d14, d21, d22, d23, d24⟩, hB⟩ trivial
    ·rintro a w1 ⟨⟨d11, d12, d13, d14, d21, d22, d23, d24⟩, hB⟩ hx hd K hK
     have t20 : a.tmps[20]?.getD undef = sv z.1 z.2.1 p1 q1 := Reg.slot_val (hd 3 (by kernel_rfl) 20 rfl)
     have t24 : a.tmps[24]?.getD undef = sv z.1 z.2.1 p2 q2 := Reg.slot_val (hd 7 (by kernel_rfl) 24 rfl)
     go_simp
     refine (laws_eqSpring _ _ _ _ _ _ _ _ _ f11 f12 f21 f22).mono ?_
     rintro en w2 ⟨rfl, hB2⟩
     exact hK _ _ (fun _ => rfl) (fun h => by cases h) ⟨⟨cell_below hB2 d11, cell_below hB2 d12, cell_below hB2 d13, cell_below hB2 d14, cell_below hB2 d21, cell_below hB2 d22, cell_below hB2 d23, cell_below hB2 d24⟩, hB.trans (hB2.mono hB.size)⟩ trivial
    ·rintro a w1 ⟨⟨d11, d12, d13, d14, d21, d22, d23, d24⟩, hB⟩ hx hd K hK
     have t25 : a.tmps[25]?.getD undef = .bool true := Reg.slot_val (hd 8 (by kernel_rfl) 25 rfl)
     go_simp
     exact hK _ _ (fun _ => rfl) (fun h => by cases h) ⟨⟨d11, d12, d13, d14, d21, d22, d23, d24⟩, hB⟩ trivial
   ·rintro f w1 ⟨_, hB⟩ hd hT
    have g26 : f 26 = .bool false := hd 9 26 rfl
    simp only [Reg.mixL, g26]
    have HB1 := Lib.hid hB
    clear hB
    go_wp2
    go_roundw
    case rel => exact ⟨k + 1, by omega, by go_num, HB.out.trans (HB1.out.mono HB.out.size)⟩
    case measure => simp [intOf]; omega
  ·have HB := Lib.hid hB
   clear hB
   go_wp2
   go_ret
   exact ⟨rfl, HB.out⟩
end Go.Proofs.YtabccmobmppdnaaGreat
namespace Go.Proofs.YtabccmobmppdnaaGreat
open Go Fk Go.RowKit
set_option linter.unusedVariables false
set_option maxRecDepth 8000
set_option maxHeartbeats 1000000 in
theorem laws_eqMesh (pa ta pa' ta' : Option Addr) (pl pc tl tc pc' tc' : Nat) (cs : List C3) (ts : List (List Int)) (w : World) (hp : IsVs w pa pl pc cs) (ht : IsTs w ta tl tc ts) (hp' : IsVs w pa' pl pc' cs) (ht' : IsTs w ta' tl tc' ts) :
  Calls Tryz.prog 74 #[.agg #[.slice pa pl pc, .slice ta tl tc], .agg #[.slice pa' pl pc', .slice ta' tl tc']] w fun e w' => e = .returned (.bool true) ∧ Below w.heap.size w w' := by
 have ui := Tryz.underlying40
 have hB0 : Below w.heap.size w ((w.alloc (.cells #[.slice pa pl pc, .slice ta tl tc] 40)).alloc (.cells #[.slice pa' pl pc', .slice ta' tl tc'] 40)) := ((Below.refl _ _).alloc (Nat.le_refl _) _).alloc (by simp) _
 have c1 : ((w.alloc (.cells #[.slice pa pl pc, .slice ta tl tc] 40)).alloc (.cells #[.slice pa' pl pc', .slice ta' tl tc'] 40)).cell? ⟨w.heap.size, 1, none⟩ = some (.slice ta tl tc) := by go_simp
 have c2 : ((w.alloc (.cells #[.slice pa pl pc, .slice ta tl tc] 40)).alloc (.cells #[.slice pa' pl pc', .slice ta' tl tc'] 40)).cell? ⟨w.heap.size + 1, 1, none⟩ = some (.slice ta' tl tc') := by go_simp
 have hsz : ((w.alloc (.cells #[.slice pa pl pc, .slice ta tl tc] 40)).alloc (.cells #[.slice pa' pl pc', .slice ta' tl tc'] 40)).heap.size = w.heap.size + 1 + 1 := by simp
 have P1 := Lib.hid (hp.below hB0)
 have P2 := Lib.hid (hp'.below hB0)
 have T1 := Lib.hid ht
 have T2 := Lib.hid ht'
 have HB0 := Lib.hid hB0
 have HSZ := Lib.hid hsz
 have C1 := Lib.hid c1
 have C2 := Lib.hid c2
 clear hp hp' ht ht' hB0 hsz c1 c2
 go_enter Tryz.func74, Tryz.ntmps74
 go_wp2_with fail
 refine (laws_eqVectorS _ _ _ _ _ _ _ P1.out P2.out).mono ?_
 rintro e w1 ⟨rfl, hB1⟩
 have hsz := HSZ.out
 have lt0 : w.heap.size < ((w.alloc (.cells #[.slice pa pl pc, .slice ta tl tc] 40)).alloc (.cells #[.slice pa' pl pc', .slice ta' tl tc'] 40)).heap.size := by rw [hsz]; omega
 have lt1 : w.heap.size + 1 < ((w.alloc (.cells #[.slice pa pl pc, .slice ta tl tc] 40)).alloc (.cells #[.slice pa' pl pc', .slice ta' tl tc'] 40)).heap.size := by rw [hsz]; omega
 have d1 : w1.cell? ⟨w.heap.size, 1, none⟩ = some (.slice ta tl tc) := by rw [hB1.cell (p := ⟨w.heap.size, 1, none⟩) lt0]; exact C1.out
 have d2 : w1.cell? ⟨w.heap.size + 1, 1, none⟩ = some (.slice ta' tl tc') := by rw [hB1.cell (p := ⟨w.heap.size + 1, 1, none⟩) lt1]; exact C2.out
 have hB : Below w.heap.size w w1 := HB0.out.trans (hB1.mono (by rw [hsz]; omega))
 have HB := Lib.hid hB
 clear hB1 hsz lt0 lt1 P1 P2 HB0 HSZ C1 C2 hB
 go_wp2_with fail
 refine (laws_eqInt64SS _ _ _ _ _ _ _ (T1.out.below HB.out) (T2.out.below HB.out)).mono ?_
 rintro e w2 ⟨rfl, n, hw⟩
 have HW := Lib.hid hw
 clear hw
 go_wp2
 go_ret
 exact ⟨rfl, by rw [HW.out]; exact below_drewN HB.out _⟩
end Go.Proofs.YtabccmobmppdnaaGreat
namespace Go.Proofs.YtabccmobmppdnaaGreat
open Go Fk Go.RowKit
set_option linter.unusedVariables false
set_option maxRecDepth 8000
def cur (zs : List Nat) (n k : Nat) : Array Value := ((zs.take k).map (fun z => Value.float .f32 z) ++ List.replicate (n - k) (Value.float .f32 0)).toArray
theorem cur_zero (zs : List Nat) (n : Nat) : cur zs n 0 = madeCells #[.float .f32 0] n := by
 unfold cur madeCells
 apply Array.ext'
 apply List.ext_getElem?
 intro i
 by_cases hi : i < n
 ·simp [hi, Nat.mod_one]
 ·simp [hi]
theorem cur_set (zs : List Nat) (n k : Nat) (hk : k < n) (hz : zs.length = n) : (cur zs n k).setIfInBounds k (.float .f32 (zs.getD k 0)) = cur zs n (k + 1) := by
 unfold cur
 apply Array.ext'
 rw [Array.toList_setIfInBounds]
 apply List.ext_getElem?
 intro i
 have hk' : k < zs.length := by omega
 have hl : ((zs.take k).map (fun z => Value.float .f32 z)).length = k := by simp; omega
 have hl' : ((zs.take (k + 1)).map (fun z => Value.float .f32 z)).length = k + 1 := by simp; omega
 rw [List.getElem?_set]
 by_cases hi : k = i
 ·subst hi
  rw [if_pos rfl, if_pos (by simp; omega), List.getElem?_append_left (by omega)]
  simp [hk']
 ·rw [if_neg hi]
  by_cases h1 : i < k
  ·rw [List.getElem?_append_left (by omega), List.getElem?_append_left (by omega)]
   simp [h1, show i < k + 1 by omega]
  ·rw [List.getElem?_append_right (by omega), List.getElem?_append_right (by omega), hl, hl', List.getElem?_replicate, List.getElem?_replicate]
   by_cases h2 : i < n
   ·rw [if_pos (by omega), if_pos (by omega)]
   ·rw [if_neg (by omega), if_neg (by omega)]
theorem cur_size (zs : List Nat) (n k : Nat) (hk : k ≤ n) (hz : zs.length = n) : (cur zs n k).size = n := by unfold cur; simp; omega
theorem cur_end (zs : List Nat) (n : Nat) (hz : zs.length = n) (i : Nat) (hi : i < n) : (cur zs n n)[i]? = some (.float .f32 (zs.getD i 0)) := by
 have hi' : i < zs.length := by omega
 have ht : zs.take n = zs := List.take_of_length_le (by omega)
 unfold cur
 rw [ht]
 simp [hi']
theorem addr_add (b o i : Nat) : (⟨b, o, none⟩ : Addr).add i = ⟨b, o + i, none⟩ := by
 unfold Addr.add
 split
 ·rename_i h; subst h; rfl
 ·rfl
theorem IsFs_below {W w : World} {a : Option Addr} {len cap : Nat} {zs : List Nat} (hb : Below W.heap.size W w) (h : IsFs .f32 W a len cap zs) : IsFs .f32 w a len cap zs := by
 obtain ⟨h1, h2, h3, h4, h5, h6⟩ := h
 refine ⟨h1, h2, h3, h4, h5, fun x hx i hi => ?_⟩
 have hc := h6 x hx i hi
 have hlt := World.block_lt_of_cell? W _ hc
 rw [hb.cell (p := x.add i) hlt]; exact hc
theorem IsFs_some {w : World} {a : Option Addr} {len cap : Nat} {zs : List Nat} (h : IsFs .f32 w a len cap zs) (hl : 0 < len) :
  ∃ b o, a = some ⟨b, o, none⟩ ∧ ∀ i, i < len → w.cell? ⟨b, o + i, none⟩ = some (.float .f32 (zs.getD i 0)) := by
 obtain ⟨h1, h2, h3, h4, h5, h6⟩ := h
 cases a with
 | none => have := (h5 rfl).1; omega
 | some x =>
  obtain ⟨b, o, spot⟩ := x
  have hc := h6 _ rfl 0 hl
  have hspot : spot = none := by simpa [Addr.add] using World.cell?_spot hc
  subst hspot
  exact ⟨b, o, rfl, fun i hi => by have := h6 _ rfl i hi; rwa [addr_add] at this⟩
theorem info32 : (Tryz.prog.info? 27).map (fun i => (i.zero, i.size, i.bytes)) = some (some (.float .f32 0), 1, 4) := by kernel_rfl
set_option maxHeartbeats 400000 in
theorem laws_toFloat32SO (a : Option Addr) (len cap : Nat) (zs : List Nat) (w : World) (h : IsFs .f32 w a len cap zs) (hlen : len ≤ 1048576) :
  Calls Tryz.prog 69 #[.slice a len cap] w fun e w' => e = .returned (.slice (some ⟨w.heap.size, 0, none⟩) len len) ∧ IsFs .f32 w' (some ⟨w.heap.size, 0, none⟩) len len zs ∧ Below w.heap.size w w' ∧ w.heap.size < w'.heap.size ∧ ∀ i, w'.frozen? ⟨w.heap.size, i, none⟩ = false := by
 obtain ⟨i0, hi, hz0, hz1, hz2⟩ := info_parts info32
 have hzl := h.1
 have hzb := h.2.2.2.1
 have hmk : (Instr.makeSlice 28 (.int .i64 len) (.int .i64 len)).run Tryz.prog w = .ok (.slice (some ⟨w.heap.size, 0, none⟩) len len) (w.alloc (.cells (cur zs len 0) 27)) := by
  have := run_make (P := Tryz.prog) w 28 27 i0 (.float .f32 0) Tryz.underlying28 hi hz0 .i64 .i64 len len (by omega) (Int.le_refl _) (by rw [hz2]; omega) (by omega)
  rw [this, hz1, cur_zero]; simp; rfl
 have hfin : IsFs .f32 (w.alloc (.cells (cur zs len len) 27)) (some ⟨w.heap.size, 0, none⟩) len len zs := by
  refine ⟨hzl, Nat.le_refl _, by unfold maxLen; omega, hzb, by simp, fun x hx i hi => ?_⟩
  cases hx
  have := cur_end zs len hzl i hi
  rw [addr_add, Nat.zero_add]; simp [this]
 have HF := Lib.hid hfin
 clear hfin hzb
 go_enter Tryz.func69, Tryz.ntmps69
 go_wp2
 go_loopw [4] (fun i w' => ∃ k : Nat, k ≤ len ∧ i = .int .i64 k ∧ w' = w.alloc (.cells (cur zs len k) 27)) (fun i _ => len - (intOf i).toNat)
 case atStart => exact ⟨0, Nat.zero_le _, rfl, rfl⟩
 case round =>
  obtain ⟨k, hk, rfl, rfl⟩ := hrel
  by_cases hlt : k < len
  ·obtain ⟨b, o, rfl, hcell⟩ := IsFs_some h (by omega)
   have hc0 := hcell k hlt
   have hblt := World.block_lt_of_cell? w _ hc0
   have hc : (w.alloc (.cells (cur zs len k) 27)).cell? ⟨b, o + k, none⟩ = some (.float .f32 (zs.getD k 0)) := by rw [World.cell?_alloc_lt (h := hblt)]; exact hc0
   have hsz := cur_size zs len k hk hzl
   have hd : (w.alloc (.cells (cur zs len k) 27)).cell? ⟨w.heap.size, k, none⟩ = some ((cur zs len k)[k]'(by omega)) := by simp [hsz, hlt]
   have hkz : k < zs.length := by omega
   have hset2 : (cur zs len k).setIfInBounds k (.float .f32 zs[k]) = cur zs len (k + 1) := by
    have := cur_set zs len k hlt hzl
    rw [show zs.getD k 0 = zs[k] by simp [List.getD, hkz]] at this; exact this
   have HS := Lib.hid hset2
   clear hset2 hcell hc0 hblt
   go_wp2
   go_roundw
   case rel => exact ⟨k + 1, by omega, by go_num, by rw [HS.out]⟩
   case measure => simp [intOf]; omega
  ·obtain rfl : k = len := by omega
   go_wp2
   go_ret
   exact ⟨rfl, HF.out, (Below.refl _ _).alloc (Nat.le_refl _) _, by simp, fun i => by simp⟩
theorem laws_toFloat32S' (a : Option Addr) (len cap : Nat) (zs : List Nat) (w : World) (h : IsFs .f32 w a len cap zs) (hlen : len ≤ 1048576) :
  Calls Tryz.prog 69 #[.slice a len cap] w fun e w' => e = .returned (.slice (some ⟨w.heap.size, 0, none⟩) len len) ∧ IsFs .f32 w' (some ⟨w.heap.size, 0, none⟩) len len zs ∧ Below w.heap.size w w' ∧ w.heap.size < w'.heap.size :=
 (laws_toFloat32SO a len cap zs w h hlen).mono fun _ _ h => ⟨h.1, h.2.1, h.2.2.1, h.2.2.2.1⟩
def isF64 (c : Option Nat) (v : Value) : Prop := ∃ r, v = .float .f64 r ∧ FV .f64 r c
set_option maxHeartbeats 1000000 in
theorem laws_eqFloat32S (a b : Option Addr) (len cap cap' : Nat) (zs : List Nat) (w : World) (ha : IsFs .f32 w a len cap zs) (hb : IsFs .f32 w b len cap' zs) (hlen : len ≤ 1048576) :
  Calls Tryz.prog 42 #[.slice a len cap, .slice b len cap'] w fun e w' => e = .returned (.bool true) ∧ ∃ n, w' = w.drewN n := by
 have u := Tryz.underlying27
 have u' := Tryz.underlying58
 have hzl := ha.1
 have hzb := ha.2.2.2.1
 go_enter Tryz.func42, Tryz.ntmps42
 go_wp2
 go_loopw [5] (fun i w' => ∃ k : Nat, k ≤ len ∧ i = .int .i64 k ∧ ∃ n, w' = w.drewN n) (fun i _ => len - (intOf i).toNat)
 case atStart => exact ⟨0, Nat.zero_le _, rfl, 0, rfl⟩
 case round =>
  obtain ⟨k, hk, rfl, n, rfl⟩ := hrel
  by_cases hlt : k < len
  ·obtain ⟨b1, o1, rfl, hcell1⟩ := IsFs_some ha (by omega)
   obtain ⟨b2, o2, rfl, hcell2⟩ := IsFs_some hb (by omega)
   have c1 := hcell1 k hlt
   have c2 := hcell2 k hlt
   have hz : zs.getD k 0 < 2 ^ FloatKind.f32.format.width := by
    have hkz : k < zs.length := by omega
    rw [show zs.getD k 0 = zs[k] by simp [List.getD, hkz]]; exact hzb _ (List.getElem_mem _)
   generalize zs.getD k 0 = z at *
   have hv := FV.self hz
   clear hcell1 hcell2 hz hzb hzl ha hb
   have hk0 : (0 : Int) ≤ (k : Int) := by omega
   have hk1 : (k : Int) < (len : Int) := by omega
   go_wp2_with fail
   refine Reg.wp_region_mix (C := fun w' => ∃ n, w' = w.drewN n) (G := fun _ _ => True) (R := fun i v _ => match i with | 0 => v = .slice (some ⟨b1, o1, none⟩) len cap | 1 => v = .int .i64 k | 2 => v = .pointer (some ⟨b1, o1 + k, none⟩) | 3 => v = .float .f32 z | 4 => isF64 ((cls .f32 z).map wid) v | 5 => v = .slice (some ⟨b2, o2, none⟩) len cap' | 6 => v = .int .i64 k | 7 => v = .pointer (some ⟨b2, o2 + k, none⟩) | 8 => v = .float .f32 z | 9 => isF64 ((cls .f32 z).map wid) v | 10 => v = .bool true | 11 => v = .bool false | _ => True) (T := fun _ _ _ => True) [false, false, false, false, false, false, false, false, false, false, false, false, false, false, false, false, false, true, true, true, true, true, true, true, true, true, true, true, true]
    (by kernel_rfl) (by kernel_rfl) (by kernel_rfl) (fun _ _ _ _ _ _ h => h) ⟨n + 1, rfl⟩ ?_ ?_
   ·refine ⟨Reg.Obl.mk ?_, Reg.Obl.mk ?_, Reg.Obl.mk ?_, Reg.Obl.mk ?_, Reg.Obl.mk ?_, Reg.Obl.mk ?_, Reg.Obl.mk ?_, Reg.Obl.mk ?_, Reg.Obl.mk ?_, Reg.Obl.mk ?_, Reg.Obl.mk ?_, Reg.Obl.mk ?_, trivial⟩
    ·rintro a w1 ⟨n1, rfl⟩ hx hd K hK
     have t0 : a.tmps[0]?.getD undef = .slice (some ⟨b1, o1, none⟩) len cap := Reg.slot_val (hx 0 (by kernel_rfl))
     go_simp
     exact hK _ _ (fun _ => rfl) (fun h => by cases h) ⟨_, rfl⟩ trivial
    ·rintro a w1 ⟨n1, rfl⟩ hx hd K hK
     have t5 : a.tmps[5]?.getD undef = .int .i64 k := Reg.slot_val (hx 5 (by kernel_rfl))
     go_simp
     exact hK _ _ (fun _ => rfl) (fun h => by cases h) ⟨_, rfl⟩ trivial
    ·rintro a w1 ⟨n1, rfl⟩ hx hd K hK
     have t17 : a.tmps[17]?.getD undef = .slice (some ⟨b1, o1, none⟩) len cap := Reg.slot_val (hd 0 (by kernel_rfl) 17 rfl)
     have t18 : a.tmps[18]?.getD undef = .int .i64 k := Reg.slot_val (hd 1 (by kernel_rfl) 18 rfl)
     go_simp
     exact hK _ _ (fun _ => rfl) (fun h => by cases h) ⟨_, rfl⟩ trivial
    ·rintro a w1 ⟨n1, rfl⟩ hx hd K hK
     have t19 : a.tmps[19]?.getD undef = .pointer (some ⟨b1, o1 + k, none⟩) := Reg.slot_val (hd 2 (by kernel_rfl) 19 rfl)
     go_simp
     exact hK _ _ (fun _ => rfl) (fun h => by cases h) ⟨_, rfl⟩ trivial
    ·rintro a w1 ⟨n1, rfl⟩ hx hd K hK
     have t20 : a.tmps[20]?.getD undef = .float .f32 z := Reg.slot_val (hd 3 (by kernel_rfl) 20 rfl)
     go_simp
     exact hK _ _ (fun _ => ⟨_, rfl, FV_wR hv⟩) (fun h => by cases h) ⟨_, rfl⟩ trivial
    ·rintro a w1 ⟨n1, rfl⟩ hx hd K hK
     have t1 : a.tmps[1]?.getD undef = .slice (some ⟨b2, o2, none⟩) len cap' := Reg.slot_val (hx 1 (by kernel_rfl))
     go_simp
     exact hK _ _ (fun _ => rfl) (fun h => by cases h) ⟨_, rfl⟩ trivial
    ·rintro a w1 ⟨n1, rfl⟩ hx hd K hK
     have t5 : a.tmps[5]?.getD undef = .int .i64 k := Reg.slot_val (hx 5 (by kernel_rfl))
     go_simp
     exact hK _ _ (fun _ => rfl) (fun h => by cases h) ⟨_, rfl⟩ trivial
    ·rintro a w1 ⟨n1, rfl⟩ hx hd K hK
     have t22 : a.tmps[22]?.getD undef = .slice (some ⟨b2, o2, none⟩) len cap' := Reg.slot_val (hd 5 (by kernel_rfl) 22 rfl)
     have t23 : a.tmps[23]?.getD undef = .int .i64 k := Reg.slot_val (hd 6 (by kernel_rfl) 23 rfl)
     go_simp
     exact hK _ _ (fun _ => rfl) (fun h => by cases h) ⟨_, rfl⟩ trivial
    ·rintro a w1 ⟨n1, rfl⟩ hx hd K hK
     have t24 : a.tmps[24]?.getD undef = .pointer (some ⟨b2, o2 + k, none⟩) := Reg.slot_val (hd 7 (by kernel_rfl) 24 rfl)
     go_simp
     exact hK _ _ (fun _ => rfl) (fun h => by cases h) ⟨_, rfl⟩ trivial
    ·rintro a w1 ⟨n1, rfl⟩ hx hd K hK
     have t25 : a.tmps[25]?.getD undef = .float .f32 z := Reg.slot_val (hd 8 (by kernel_rfl) 25 rfl)
     go_simp
     exact hK _ _ (fun _ => ⟨_, rfl, FV_wR hv⟩) (fun h => by cases h) ⟨_, rfl⟩ trivial
    ·rintro a w1 ⟨n1, rfl⟩ hx hd K hK
     obtain ⟨r21, g21, f21⟩ := hd 4 (by kernel_rfl) 21 rfl
     have t21 := Reg.slot_val g21
     clear g21
     obtain ⟨r26, g26, f26⟩ := hd 9 (by kernel_rfl) 26 rfl
     have t26 := Reg.slot_val g26
     clear g26
     go_simp
     refine (laws_sameFloat _ _ _ _ f21 f26).mono ?_
     rintro en w2 ⟨rfl, n2, rfl⟩
     exact hK _ _ (fun _ => rfl) (fun h => by cases h) ⟨_, World.drewN_drewN ..⟩ trivial
    ·rintro a w1 ⟨n1, rfl⟩ hx hd K hK
     have t27 : a.tmps[27]?.getD undef = .bool true := Reg.slot_val (hd 10 (by kernel_rfl) 27 rfl)
     go_simp
     exact hK _ _ (fun _ => rfl) (fun h => by cases h) ⟨_, rfl⟩ trivial
   ·rintro f w1 ⟨n1, rfl⟩ hd hT
    have g28 : f 28 = .bool false := hd 11 28 rfl
    simp only [Reg.mixL, g28]
    go_wp2
    go_roundw
    case rel => exact ⟨k + 1, by omega, by go_num, _, rfl⟩
    case measure => simp [intOf]; omega
  ·go_wp2
   go_ret
   exact ⟨rfl, _, rfl⟩
end Go.Proofs.YtabccmobmppdnaaGreat
namespace Go.Proofs.YtabccmobmppdnaaGreat
open Go Fk Go.RowKit
set_option linter.unusedVariables false
theorem impl_product32 (x y : Nat) (w : World) (c d : Option Nat) (h1 : FV .f32 x c) (h2 : FV .f32 y d) :
  Calls Tryz.prog 95 #[.float .f32 x, .float .f32 y] w fun en w' => ∃ r, en = .returned (.float .f32 r) ∧ FV .f32 r (fop .mul .f32 c d) ∧ ∃ n, w' = w.drewN n := by
 have u := Tryz.underlying27
 go_enter Tryz.func95, Tryz.ntmps95
 go_wp2
 go_ret
 exact ⟨_, rfl, FV_fR h1 h2, _, rfl⟩
theorem l01Scale (x y z r : Nat) (w : World) (c d e q : Option Nat) (h1 : FV .f32 x c) (h2 : FV .f32 y d) (h3 : FV .f32 z e) (hr : FV .f32 r q) :
  Calls Tryz.prog 123 #[vv x y z, .float .f32 r] w fun en w' => ∃ a b g, en = .returned (vv a b g) ∧ FV .f32 a (fop .mul .f32 c q) ∧ FV .f32 b (fop .mul .f32 d q) ∧ FV .f32 g (fop .mul .f32 e q) ∧ Below w.heap.size w w' := by
 have u := Tryz.underlying27
 have uv := Tryz.underlying42
 go_enter Tryz.func123, Tryz.ntmps123
 go_wp2
 refine bodyPost_ret (v := vv _ _ _) (by simp [results, Tryz.results123, go_sem] <;> exact ⟨rfl, rfl, rfl⟩) rfl ⟨_, _, _, rfl, FV_fR h1 hr, FV_fR h2 hr, FV_fR h3 hr, ?_⟩
 exact below_drewN (((Below.refl _ _).alloc (Nat.le_refl _) _).alloc (by simp) _) _
set_option maxHeartbeats 2000000 in
theorem impl_ScaleVector (x y z r : Nat) (w : World) (c d e q : Option Nat) (h1 : FV .f32 x c) (h2 : FV .f32 y d) (h3 : FV .f32 z e) (hr : FV .f32 r q) :
  Calls Tryz.prog 128 #[vv x y z, .float .f32 r] w fun en w' => ∃ a b g, en = .returned (vv a b g) ∧ FV .f32 a (fop .mul .f32 c q) ∧ FV .f32 b (fop .mul .f32 d q) ∧ FV .f32 g (fop .mul .f32 e q) ∧ Below w.heap.size w w' := by
 have u := Tryz.underlying27
 have uv := Tryz.underlying42
 go_enter Tryz.func128, Tryz.ntmps128
 go_wp2_with fail
 go_region_held3 (fun w' => w'.cell? ⟨w.heap.size, 0, none⟩ = some (.float .f32 x) ∧ w'.cell? ⟨w.heap.size, 1, none⟩ = some (.float .f32 y) ∧ w'.cell? ⟨w.heap.size, 2, none⟩ = some (.float .f32 z)) (go_keep) ((go_at_call 95; refine (impl_product32 _ _ _ _ _ (by assumption) (by assumption)).mono ?_; rintro en w1 ⟨r1, rfl, hr1, n1, rfl⟩))
 all_goals
  go_wp2
  refine bodyPost_ret (v := vv _ _ _) (by simp [results, Tryz.results128, go_sem] <;> exact ⟨rfl, rfl, rfl⟩) rfl ⟨_, _, _, rfl, (by first | assumption | exact FV_fR (by assumption) (by assumption)), (by first | assumption | exact FV_fR (by assumption) (by assumption)), (by first | assumption | exact FV_fR (by assumption) (by assumption)), below_drewN (((Below.refl _ _).alloc (Nat.le_refl _) _).alloc (by simp) _) _⟩
theorem l01Cross (x y z x' y' z' : Nat) (w : World) (c d e c' d' e' : Option Nat) (h1 : FV .f32 x c) (h2 : FV .f32 y d) (h3 : FV .f32 z e) (h1' : FV .f32 x' c') (h2' : FV .f32 y' d') (h3' : FV .f32 z' e') :
  Calls Tryz.prog 167 #[vv x y z, vv x' y' z'] w fun en w' => ∃ a b g, en = .returned (vv a b g) ∧ FV .f32 a (fop .sub .f32 (fop .mul .f32 d e') (fop .mul .f32 e d')) ∧ FV .f32 b (fop .sub .f32 (fop .mul .f32 e c') (fop .mul .f32 c e')) ∧ FV .f32 g (fop .sub .f32 (fop .mul .f32 c d') (fop .mul .f32 d c')) ∧ Below w.heap.size w w' := by
 have u := Tryz.underlying27
 have uv := Tryz.underlying42
 go_enter Tryz.func167, Tryz.ntmps167
 go_wp2
 refine bodyPost_ret (v := vv _ _ _) (by simp [results, Tryz.results167, go_sem] <;> exact ⟨rfl, rfl, rfl⟩) rfl ⟨_, _, _, rfl, FV_fR (FV_fR h2 h3') (FV_fR h3 h2'), FV_fR (FV_fR h3 h1') (FV_fR h1 h3'), FV_fR (FV_fR h1 h2') (FV_fR h2 h1'), below_drewN ((((Below.refl _ _).alloc (Nat.le_refl _) _).alloc (by simp) _).alloc (by simp; omega) _) _⟩
theorem l01Inner (x y z x' y' z' : Nat) (w : World) (c d e c' d' e' : Option Nat) (h1 : FV .f32 x c) (h2 : FV .f32 y d) (h3 : FV .f32 z e) (h1' : FV .f32 x' c') (h2' : FV .f32 y' d') (h3' : FV .f32 z' e') :
  Calls Tryz.prog 171 #[vv x y z, vv x' y' z'] w fun en w' => ∃ a, en = .returned (.float .f32 a) ∧ FV .f32 a (fop .add .f32 (fop .add .f32 (fop .mul .f32 c c') (fop .mul .f32 d d')) (fop .mul .f32 e e')) ∧ Below w.heap.size w w' := by
 have u := Tryz.underlying27
 have uv := Tryz.underlying42
 go_enter Tryz.func171, Tryz.ntmps171
 go_wp2
 go_ret
 exact ⟨_, rfl, FV_fR (FV_fR (FV_fR h1 h1') (FV_fR h2 h2')) (FV_fR h3 h3'), below_drewN (((Below.refl _ _).alloc (Nat.le_refl _) _).alloc (by simp) _) _⟩
end Go.Proofs.YtabccmobmppdnaaGreat
namespace Go.Proofs.YtabccmobmppdnaaGreat
namespace Reg3
open Go Reg
set_option linter.unusedVariables false
section
variable {P : Program} {ops : Array Oper} {Q : Exit → Act → World → Prop} {md : Region.Mode}
def Obl (P : Program) (ops : Array Oper) (a0 : Act) (C : World → Prop) (G : World → World → Prop) (R : Nat → Value → World → Prop) (T : Nat → Act → World → Prop) (Q : Exit → Act → World → Prop) (i : Nat) (o : Oper) : Prop :=
 ∀ a w, C w → (∀ t, ((List.range ops.size).all fun j => slotOf ops j != some t || behind ops i j) = true → a.eval (.tmp t) = a0.eval (.tmp t)) →
  (∀ j, behind ops j i = true → Has ops R j a w) →
  o.wp P a w (fun a' w' => ∃ v, a' = a.put o.dst v ∧ (o.dst ≠ none → R i v w') ∧ (o.dst = none → T i a w') ∧ (o.dst ≠ none → C w') ∧ G w w') Q
def OblAll (P : Program) (ops : Array Oper) (a0 : Act) (C : World → Prop) (G : World → World → Prop) (R : Nat → Value → World → Prop) (T : Nat → Act → World → Prop) (Q : Exit → Act → World → Prop) : Nat → List Oper → Prop
 | _, [] => True
 | i, o :: l => Obl P ops a0 C G R T Q i o ∧ OblAll P ops a0 C G R T Q (i + 1) l
theorem OblAll.get {a0 : Act} {C : World → Prop} {G : World → World → Prop} {R : Nat → Value → World → Prop} {T : Nat → Act → World → Prop} :
  ∀ {l : List Oper} {k : Nat}, OblAll P ops a0 C G R T Q k l → ∀ {i : Nat} {o : Oper}, l[i]? = some o → Obl P ops a0 C G R T Q (k + i) o
 | [], _, _, _, _, h => by simp at h
 | _ :: _, _, h, 0, _, ho => by simp at ho; subst ho; exact h.1
 | _ :: l, k, h, i + 1, _, ho => by
  have := OblAll.get h.2 (i := i) (by simpa using ho)
  rwa [Nat.add_assoc, Nat.add_comm 1 i] at this
theorem Obl.mk {a0 : Act} {C : World → Prop} {G : World → World → Prop} {R : Nat → Value → World → Prop} {T : Nat → Act → World → Prop} {i : Nat} {o : Oper}
  (h : ∀ a w, C w → (∀ t, ((List.range ops.size).all fun j => slotOf ops j != some t || behind ops i j) = true → a.eval (.tmp t) = a0.eval (.tmp t)) →
   (∀ j, behind ops j i = true → Has ops R j a w) → ∀ K : Act → World → Prop, (∀ v w', (o.dst ≠ none → R i v w') → (o.dst = none → T i a w') → (o.dst ≠ none → C w') → G w w' → K (a.put o.dst v) w') → o.wp P a w K Q) : Obl P ops a0 C G R T Q i o :=
 fun a w hC he hd => h a w hC he hd _ fun v w' h1 h2 h3 h4 => ⟨v, rfl, h1, h2, h3, h4⟩
theorem wp_region_inv {id : Nat} {a0 : Act} {w0 : World} {C : World → Prop} {G : World → World → Prop} {R : Nat → Value → World → Prop} {T : Nat → Act → World → Prop} (hm : P.follows .mixedOrders = true) (ht : tidy ops a0.tmps.size = true)
  (hG : ∀ j v w w', C w → G w w' → R j v w → R j v w') (hC : C { w0 with drawn := w0.drawn + 1 })
  (hO : OblAll P ops a0 C G R T Q 0 ops.toList)
  (hQ : ∀ a w, a.defers = a0.defers → a.tmps.size = a0.tmps.size → (∀ t, (ops.all fun o => o.dst != some t) = true → a.eval (.tmp t) = a0.eval (.tmp t)) → (∀ j, j < ops.size → Has ops R j a w) → (∀ j, HasT ops T j a w) → Q .normal a w) :
  (Code.region id ops true).wp P Q a0 w0 := by
 unfold tidy at ht
 simp only [Bool.and_eq_true] at ht
 obtain ⟨⟨⟨⟨hlow, hgd⟩, hbd⟩, hdis⟩, hlast⟩ := ht
 have slot_lt : ∀ {j d}, slotOf ops j = some d → j < ops.size := fun {j d} h => by
  unfold slotOf at h
  cases ho : ops[j]? with
  | none => rw [ho] at h; cases h
  | some o => exact (Array.getElem?_eq_some_iff.1 ho).1
 have slot_bd : ∀ {j d}, slotOf ops j = some d → d < a0.tmps.size := fun {j d} h => by
  have hj := slot_lt h
  have := Array.all_eq_true.1 hbd j hj
  unfold slotOf at h
  rw [Array.getElem?_eq_getElem hj] at h
  simp only [Option.bind_some] at h
  rw [h] at this
  simpa using this
 have slot_ne : ∀ {i j d}, slotOf ops i = some d → slotOf ops j = some d → i = j := fun {i j d} h1 h2 => by
  have a1 := slot_lt h1
  have a2 := slot_lt h2
  have := List.all_eq_true.1 (List.all_eq_true.1 hdis i (List.mem_range.2 a1)) j (List.mem_range.2 a2)
  rw [h1, h2] at this
  simpa using this
 let Inv : Array Bool → Act → World → Prop := fun listed a w => ((∀ j, j < ops.size → slotOf ops j = none → listed.getD j false = false) → C w) ∧ a.defers = a0.defers ∧ a.tmps.size = a0.tmps.size ∧
  (∀ t, (∀ j, slotOf ops j = some t → listed.getD j false = false) → a.eval (.tmp t) = a0.eval (.tmp t)) ∧
  (∀ j, listed.getD j false = true → Has ops R j a w) ∧ (∀ i j, listed.getD j false = true → behind ops i j = true → listed.getD i false = true) ∧ (∀ j, listed.getD j false = true → HasT ops T j a w)
 refine wp_region_any hm (wpAny_inv (Inv := Inv) hlow ?_ ?_ _ _ _ _ (by simp) (by simp) ⟨fun _ => hC, rfl, rfl, fun _ _ => rfl, ?_, ?_, ?_⟩)
 ·intro i listed a w hs hi ⟨hCw0, hd, hsz, hext, hhas, hcl, hT⟩
  obtain ⟨hun, o, ho, hdeps⟩ := mem_ready.1 hi
  have hilt : i < ops.size := (Array.getElem?_eq_some_iff.1 ho).1
  have hun' : listed.getD i false = false := by
   have : i < listed.size := by omega
   simp [this] at hun ⊢; exact hun
  have hg : o.guard = none := by
   have := Array.all_eq_true.1 hgd i hilt
   rw [Array.getElem?_eq_getElem hilt] at ho
   cases ho
   simpa using this
  have hCw : C w := hCw0 fun j hlt hn => by
   cases hl : listed.getD j false
   ·rfl
   ·exfalso
    have h1 := List.all_eq_true.1 hlast j (List.mem_range.2 hlt)
    rw [hn] at h1
    simp only [bne_self_eq_false, Bool.false_or] at h1
    have h2 := List.all_eq_true.1 h1 i (List.mem_range.2 hilt)
    have hne : i ≠ j := fun e => by subst e; rw [hun'] at hl; cases hl
    simp [hne] at h2
    have := hcl i j hl h2
    rw [hun'] at this; cases this
  have hob := OblAll.get hO (i := i) (o := o) (by simpa using ho)
  rw [Nat.zero_add] at hob
  have hwp := hob a w hCw (fun t htt => hext t fun j hj => by
    have := List.all_eq_true.1 htt j (List.mem_range.2 (slot_lt hj))
    rw [hj] at this
    simp at this
    cases hl : listed.getD j false
    ·rfl
    ·have := hcl i j hl this; rw [hun'] at this; cases this)
   (fun j hj => hhas j (by
    obtain ⟨e, he, h1, h2⟩ := behind_spec hj ho
    rw [← h1]
    exact hdeps e he h2))
  unfold wpOp
  rw [ho]
  simp only [Region.wanted, hg, if_true]
  refine .inl (Oper.wp_mono ?_ hwp)
  rintro a' w' ⟨v, rfl, hR, hTi, hC', hGw⟩
  have hdst : slotOf ops i = o.dst := by unfold slotOf; rw [ho]; rfl
  have keep : ∀ t, o.dst ≠ some t → (a.put o.dst v).eval (.tmp t) = a.eval (.tmp t) := fun t h => Act.eval_put (fun d hd he => h (by rw [hd]; cases he; rfl))
  have lst : ∀ j, (listed.setIfInBounds i true).getD j false = true → j = i ∨ listed.getD j false = true := fun j h => by
   by_cases hji : i = j
   ·exact .inl hji.symm
   ·rw [getD_set_ne false hji] at h; exact .inr h
  refine ⟨fun hno => hC' fun hn => ?_, ?_, ?_, ?_, ?_, ?_, ?_⟩
  ·have := hno i hilt (by rw [hdst]; exact hn)
   have hlt : i < listed.size := by omega
   simp [hlt] at this
  ·rw [← hd]; unfold Act.put; split <;> rfl
  ·rw [← hsz]; unfold Act.put; split <;> simp
  ·intro t htt
   rw [keep t (fun h => by
    have := htt i (by rw [hdst]; exact h)
    have hlt : i < listed.size := by omega
    simp [hlt] at this)]
   refine hext t fun j hj => ?_
   have := htt j hj
   cases hl : listed.getD j false
   ·rfl
   ·rw [getD_set_true hl] at this; cases this
  ·intro j hj d hjd
   rcases lst j hj with rfl | hj'
   ·rw [hdst] at hjd
    have hb := slot_bd (j := j) (by rw [hdst]; exact hjd)
    have : (a.put o.dst v).eval (.tmp d) = v := by
     unfold Act.put Act.eval; rw [hjd]; simp; exact fun h => absurd (Nat.lt_of_lt_of_le hb (hsz ▸ h)) (Nat.lt_irrefl _)
    rw [this]; exact hR (by rw [hjd]; simp)
   ·rw [keep d (fun h => by
     have := slot_ne (show slotOf ops i = some d by rw [hdst]; exact h) hjd
     subst this; rw [hun'] at hj'; cases hj')]
    exact hG _ _ _ _ hCw hGw (hhas j hj' d hjd)
  ·intro i' j hj hb
   rcases lst j hj with rfl | hj'
   ·refine getD_set_true ?_
    obtain ⟨e, he, h1, h2⟩ := behind_spec hb ho
    rw [← h1]; exact hdeps e he h2
   ·exact getD_set_true (hcl i' j hj' hb)
  ·intro j hj hn hlt
   rcases lst j hj with rfl | hj'
   ·rw [hdst] at hn
    have : a.put o.dst v = a := by rw [hn]; rfl
    rw [this]; exact hTi hn
   ·exfalso
    have h1 := List.all_eq_true.1 hlast j (List.mem_range.2 hlt)
    rw [hn] at h1
    simp only [bne_self_eq_false, Bool.false_or] at h1
    have h2 := List.all_eq_true.1 h1 i (List.mem_range.2 hilt)
    have hne : i ≠ j := fun e => by subst e; rw [hun'] at hj'; cases hj'
    simp [hne] at h2
    have := hcl i j hj' h2
    rw [hun'] at this; cases this
 ·intro listed a w hall ⟨_, hd, hsz, hext, hhas, _, hT⟩
  refine hQ a w hd hsz (fun t htt => hext t fun j hj => ?_) (fun j hj => hhas j (hall j hj)) (fun j hn hlt => hT j (hall j hlt) hn hlt)
  exfalso
  have hlt := slot_lt hj
  have := Array.all_eq_true.1 htt j hlt
  unfold slotOf at hj
  rw [Array.getElem?_eq_getElem hlt] at hj
  simp only [Option.bind_some] at hj
  rw [hj] at this
  simp at this
 ·intro j hj
  simp at hj
  rw [Array.getElem?_replicate] at hj; split at hj <;> simp at hj
 ·intro i j hj
  simp at hj
  rw [Array.getElem?_replicate] at hj; split at hj <;> simp at hj
 ·intro j hj
  simp at hj
  rw [Array.getElem?_replicate] at hj; split at hj <;> simp at hj
theorem wp_region_mix {id : Nat} {a0 : Act} {w0 : World} {C : World → Prop} {G : World → World → Prop} {R : Nat → Value → World → Prop} {T : Nat → Act → World → Prop} (m : List Bool) (hm : P.follows .mixedOrders = true) (ht : tidy ops a0.tmps.size = true)
  (hk : maskOk ops m a0.tmps.size = true)
  (hG : ∀ j v w w', C w → G w w' → R j v w → R j v w') (hC : C { w0 with drawn := w0.drawn + 1 })
  (hO : OblAll P ops a0 C G R T Q 0 ops.toList)
  (hQ : ∀ (f : Nat → Value) w, (∀ j d, slotOf ops j = some d → R j (f d) w) → (∀ j, HasT ops T j ⟨(mixL f m 0 a0.tmps.toList).toArray, a0.defers⟩ w) → Q .normal ⟨(mixL f m 0 a0.tmps.toList).toArray, a0.defers⟩ w) :
  (Code.region id ops true).wp P Q a0 w0 := by
 refine wp_region_inv hm ht hG hC hO fun a w hd hsz hext hhas hT => ?_
 unfold maskOk at hk
 simp only [Bool.and_eq_true, beq_iff_eq] at hk
 obtain ⟨hml, hmk⟩ := hk
 have e : a = ⟨(mixL (fun t => a.eval (.tmp t)) m 0 a0.tmps.toList).toArray, a0.defers⟩ := by
  rw [mixL_eq _ _ _ _ (by simpa using hml) ?_]
  ·cases a with
   | mk tmps defers =>
    simp only [Act.mk.injEq]
    refine ⟨?_, hd⟩
    apply Array.ext'
    apply List.ext_getElem?
    intro i
    simp only at hsz
    by_cases hi : i < tmps.size
    ·have hi' : i < a0.tmps.size := by omega
     simp [hi, hi', Act.eval]
    ·have hi' : ¬ i < a0.tmps.size := by omega
     simp [hi, hi']
  ·intro i hi
   have hlt : i < a0.tmps.size := by
    have := (List.getElem?_eq_some_iff.1 hi).1; omega
   have h1 := List.all_eq_true.1 hmk i (List.mem_range.2 hlt)
   have h2 : m.getD i false = false := by simp [List.getD, hi]
   rw [h2, Bool.false_or] at h1
   have h3 := hext i h1
   rw [Nat.zero_add, h3]
   simp [Act.eval, hlt]
 have h1 : ∀ j d, slotOf ops j = some d → R j ((fun t => a.eval (.tmp t)) d) w := fun j d hj => hhas j (by
  unfold slotOf at hj
  cases ho : ops[j]? with
  | none => rw [ho] at hj; cases hj
  | some o => exact (Array.getElem?_eq_some_iff.1 ho).1) d hj
 rw [e] at hT ⊢
 exact hQ (fun t => a.eval (.tmp t)) w h1 hT
end
end Reg3
end Go.Proofs.YtabccmobmppdnaaGreat
namespace Go.Proofs.YtabccmobmppdnaaGreat
open Go Fk Go.RowKit
set_option linter.unusedVariables false
set_option maxRecDepth 8000
def addC (a b : C3) : C3 := (fop .add .f32 a.1 b.1, fop .add .f32 a.2.1 b.2.1, fop .add .f32 a.2.2 b.2.2)
abbrev z3 : C3 := (some 0, some 0, some 0)
def FV3 (x y z : Nat) (c : C3) : Prop := FV .f32 x c.1 ∧ FV .f32 y c.2.1 ∧ FV .f32 z c.2.2
def V3 (w : World) (b x y z : Nat) : Prop :=
 (w.cell? ⟨b, 0, none⟩ = some (.float .f32 x) ∧ w.cell? ⟨b, 1, none⟩ = some (.float .f32 y) ∧ w.cell? ⟨b, 2, none⟩ = some (.float .f32 z)) ∧ ∀ i, w.frozen? ⟨b, i, none⟩ = false
theorem V3.lt {w : World} {b x y z : Nat} (h : V3 w b x y z) : b < w.heap.size := World.block_lt_of_cell? w _ h.1.1
theorem V3.below {W w : World} {b x y z : Nat} (hb : Below W.heap.size W w) (h : V3 W b x y z) : V3 w b x y z :=
 ⟨⟨cell_below hb h.1.1, cell_below hb h.1.2.1, cell_below hb h.1.2.2⟩, fun i => frozen_below hb h.lt (h.2 i)⟩
theorem V3.new {w : World} {x y z : Nat} {t : TypeId} : V3 (w.alloc (.cells #[.float .f32 x, .float .f32 y, .float .f32 z] t)) w.heap.size x y z := ⟨⟨new0, new1, new2⟩, fun i => newf⟩
theorem V3.alloc {w : World} {b x y z : Nat} {o : Obj} (h : V3 w b x y z) : V3 (w.alloc o) b x y z :=
 h.below ((Below.refl _ _).alloc (Nat.le_refl _) _)
theorem V3.put {w : World} {b x y z p q r : Nat} (h : V3 w b x y z) : V3 (((w.setCell ⟨b, 0, none⟩ (.float .f32 p)).setCell ⟨b, 1, none⟩ (.float .f32 q)).setCell ⟨b, 2, none⟩ (.float .f32 r)) b p q r := by
 obtain ⟨k0, k1, k2, _⟩ := set3k (u := .float .f32 p) (v := .float .f32 q) (t := .float .f32 r) (n := b) (o := 0) h.1.1 h.1.2.1 h.1.2.2
 exact ⟨⟨k0, k1, k2⟩, fun i => by simp; exact h.2 i⟩
theorem V3.far {w : World} {b x y z n : Nat} {u v t : Value} (h : V3 w b x y z) (hne : n ≠ b) : V3 (((w.setCell ⟨n, 0, none⟩ u).setCell ⟨n, 1, none⟩ v).setCell ⟨n, 2, none⟩ t) b x y z := by
 refine ⟨⟨?_, ?_, ?_⟩, fun i => by simp; exact h.2 i⟩
 ·exact cell_set hne (cell_set hne (cell_set hne h.1.1))
 ·exact cell_set hne (cell_set hne (cell_set hne h.1.2.1))
 ·exact cell_set hne (cell_set hne (cell_set hne h.1.2.2))
end Go.Proofs.YtabccmobmppdnaaGreat
namespace Go.Proofs.YtabccmobmppdnaaGreat
open Go Fk Go.RowKit
set_option linter.unusedVariables false
def At (w : World) (b : Nat) (vs : List Value) : Prop := ∀ i v, vs[i]? = some v → w.cell? ⟨b, i, none⟩ = some v
theorem At.below {W w : World} {b : Nat} {vs : List Value} (hb : Below W.heap.size W w) (h : At W b vs) : At w b vs := fun i v hv => cell_below hb (h i v hv)
theorem At.alloc {w : World} {b : Nat} {vs : List Value} {o : Obj} (h : At w b vs) : At (w.alloc o) b vs := fun i v hv => cell_alloc (h i v hv)
theorem At.new {w : World} {vs : List Value} {t : TypeId} : At (w.alloc (.cells vs.toArray t)) w.heap.size vs := by
 intro i v hv
 simp [hv]
theorem At.far {w : World} {b : Nat} {vs : List Value} {a : Addr} {u : Value} (hne : a.block ≠ b) (h : At w b vs) : At (w.setCell a u) b vs := fun i v hv => cell_set hne (h i v hv)
theorem At.set {w : World} {b : Nat} {vs : List Value} (h : At w b vs) (i : Nat) (u : Value) : At (w.setCell ⟨b, i, none⟩ u) b (vs.set i u) := by
 intro j v hv
 rw [List.getElem?_set] at hv
 by_cases hij : i = j
 ·subst hij
  rw [if_pos rfl] at hv
  split at hv
  ·rename_i hlt
   cases hv
   exact World.cell?_setCell_same _ _ _ (h i vs[i] (List.getElem?_eq_getElem hlt))
  ·cases hv
 ·rw [if_neg hij] at hv
  rw [World.cell?_setCell_other _ _ _ _ (by simp <;> omega)]
  exact h j v hv
theorem At.lt {w : World} {b : Nat} {v : Value} {vs : List Value} (h : At w b (v :: vs)) : b < w.heap.size := World.block_lt_of_cell? w _ (h 0 v rfl)
def Fr (w : World) (b : Nat) : Prop := ∀ i, w.frozen? ⟨b, i, none⟩ = false
theorem Fr.below {W w : World} {b : Nat} (hb : Below W.heap.size W w) (hlt : b < W.heap.size) (h : Fr W b) : Fr w b := fun i => frozen_below hb hlt (h i)
theorem Fr.setC {w : World} {b : Nat} {a : Addr} {u : Value} (h : Fr w b) : Fr (w.setCell a u) b := fun i => by simp; exact h i
theorem Fr.new {w : World} {vs : Array Value} {t : TypeId} : Fr (w.alloc (.cells vs t)) w.heap.size := fun i => by simp
end Go.Proofs.YtabccmobmppdnaaGreat
namespace Go.Proofs.YtabccmobmppdnaaGreat
open Go Fk Go.RowKit
set_option linter.unusedVariables false
set_option maxRecDepth 8000
structure Bd where
 (pa ta sa wa : Option Addr)
 (pl pc tl tc sl sc wl wc film bend x y z : Nat)
abbrev Bd.v (B : Bd) : Value := .agg #[.slice B.pa B.pl B.pc, .slice B.ta B.tl B.tc, .slice B.sa B.sl B.sc, .float .f32 B.film, .float .f32 B.bend, .slice B.wa B.wl B.wc, .float .f32 B.x, .float .f32 B.y, .float .f32 B.z]
abbrev Bd.l (B : Bd) : List Value := [.slice B.pa B.pl B.pc, .slice B.ta B.tl B.tc, .slice B.sa B.sl B.sc, .float .f32 B.film, .float .f32 B.bend, .slice B.wa B.wl B.wc, .float .f32 B.x, .float .f32 B.y, .float .f32 B.z]
structure Bc where
 (cs : List C3) (ts : List (List Int)) (ss : List SC) (zs : List Nat) (film bend : Option Nat) (fall : C3)
def IsB (w : World) (B : Bd) (c : Bc) : Prop :=
 IsVs w B.pa B.pl B.pc c.cs ∧ IsTs w B.ta B.tl B.tc c.ts ∧ IsSs w B.sa B.sl B.sc c.ss ∧ IsFs .f32 w B.wa B.wl B.wc c.zs ∧ FV .f32 B.film c.film ∧ FV .f32 B.bend c.bend ∧ FV3 B.x B.y B.z c.fall
theorem IsB.below {W w : World} {B : Bd} {c : Bc} (hb : Below W.heap.size W w) (h : IsB W B c) : IsB w B c :=
 ⟨h.1.below hb, h.2.1.below hb, h.2.2.1.below hb, IsFs_below hb h.2.2.2.1, h.2.2.2.2⟩
def SmallB (c : Bc) : Prop := Small c.cs c.ts ∧ c.ss.length ≤ 1048576 ∧ c.zs.length ≤ 1048576
theorem laws_szBody' (B : Bd) (c : Bc) (left : Int) (w : World) (h : IsB w B c) (h0 : 0 ≤ left) (h1 : left ≤ 1048576) :
  Calls Tryz.prog 15 #[B.v, .int .i64 left] w fun e w' => (∃ r : Int, e = .returned (.int .i64 r) ∧ (r = -1 ∨ (0 ≤ r ∧ r ≤ 1048576 ∧ SmallB c))) ∧ Below w.heap.size w w' := by
 have ul := Tryz.underlying32
 have um := Tryz.underlying25
 have hA0 : At (w.alloc (.cells #[.slice B.pa B.pl B.pc, .slice B.ta B.tl B.tc, .slice B.sa B.sl B.sc, .float .f32 B.film, .float .f32 B.bend, .slice B.wa B.wl B.wc, .float .f32 B.x, .float .f32 B.y, .float .f32 B.z] 32)) w.heap.size B.l := At.new
 have hB0 := (Below.refl w.heap.size w).alloc (Nat.le_refl _) (.cells #[.slice B.pa B.pl B.pc, .slice B.ta B.tl B.tc, .slice B.sa B.sl B.sc, .float .f32 B.film, .float .f32 B.bend, .slice B.wa B.wl B.wc, .float .f32 B.x, .float .f32 B.y, .float .f32 B.z] 32)
 have H0 := Lib.hid (h.below hB0)
 have hsm : B.sl ≤ 9223372036854775807 := by have h1 := h.2.2.1.2.1; have h2 := h.2.2.1.2.2.1; unfold maxLen at h2; omega
 have hwm : B.wl ≤ 9223372036854775807 := by have h1 := h.2.2.2.1.2.1; have h2 := h.2.2.2.1.2.2.1; unfold maxLen at h2; omega
 have L := Lib.hid (And.intro h.1.1 (And.intro h.2.1.1 (And.intro h.2.2.1.1 h.2.2.2.1.1)))
 have HA0 := Lib.hid hA0
 have HB0 := Lib.hid hB0
 clear hA0 hB0 h
 go_enter Tryz.func15, Tryz.ntmps15
 go_wp2_with fail
 generalize (w.alloc (.cells #[.slice B.pa B.pl B.pc, .slice B.ta B.tl B.tc, .slice B.sa B.sl B.sc, .float .f32 B.film, .float .f32 B.bend, .slice B.wa B.wl B.wc, .float .f32 B.x, .float .f32 B.y, .float .f32 B.z] 32)) = W at *
 refine (laws_szMesh' _ _ _ _ _ _ _ _ _ _ H0.out.1 H0.out.2.1 h0 h1).mono ?_
 rintro e w1 ⟨⟨r, rfl, hr⟩, hB1⟩
 have hA1 := HA0.out.below hB1
 have k2 := hA1 2 _ rfl
 have k5 := hA1 5 _ rfl
 have HB1 := Lib.hid (HB0.out.trans (hB1.mono HB0.out.size))
 clear hA1 hB1
 rcases hr with rfl | ⟨r0, r1, s1, s2, s3⟩
 ·go_wp2
  go_ret
  exact ⟨⟨-1, rfl, .inl rfl⟩, HB1.out⟩
 ·have HS3 := Lib.hid s3
  clear s3
  go_wp2_with (go_at_call 62; refine (laws_szSpringS _ _ _ _ _ r0 r1 hsm).mono ?_; rintro e w2 ⟨⟨q, rfl, hq⟩, hw2⟩; rw [hw2]; clear hw2 w2; rcases hq with rfl | ⟨q0, q1, q2⟩)
  ·go_ret
   exact ⟨⟨-1, rfl, .inl rfl⟩, HB1.out⟩
  ·go_wp2_with (go_at_call 63; refine (laws_szFloat32S _ _ _ _ _ q0 q1 hwm).mono ?_; rintro e w2 ⟨⟨p, rfl, hp⟩, hw2⟩; rw [hw2]; clear hw2 w2; rcases hp with rfl | ⟨p0, p1, p2⟩)
   ·go_ret
    exact ⟨⟨-1, rfl, .inl rfl⟩, HB1.out⟩
   ·go_wp2
    go_ret
    exact ⟨⟨p, rfl, .inr ⟨p0, p1, ⟨by rw [L.out.1]; exact s1, by rw [L.out.2.1]; exact s2, by rw [L.out.2.1]; exact HS3.out⟩, by rw [L.out.2.2.1]; exact q2, by rw [L.out.2.2.2]; exact p2⟩⟩, HB1.out⟩
theorem eqMesh' (pa ta pa' ta' : Option Addr) (pl pl' pc tl tl' tc pc' tc' : Nat) (cs : List C3) (ts : List (List Int)) (w : World) (hp : IsVs w pa pl pc cs) (ht : IsTs w ta tl tc ts) (hp' : IsVs w pa' pl' pc' cs) (ht' : IsTs w ta' tl' tc' ts) :
  Calls Tryz.prog 74 #[.agg #[.slice pa pl pc, .slice ta tl tc], .agg #[.slice pa' pl' pc', .slice ta' tl' tc']] w fun e w' => e = .returned (.bool true) ∧ Below w.heap.size w w' := by
 obtain rfl := hp'.1.symm.trans hp.1
 obtain rfl := ht'.1.symm.trans ht.1
 exact laws_eqMesh _ _ _ _ _ _ _ _ _ _ cs ts w hp ht hp' ht'
theorem eqSpringS' (a b : Option Addr) (len len' cap cap' : Nat) (ss : List SC) (w : World) (ha : IsSs w a len cap ss) (hb : IsSs w b len' cap' ss) :
  Calls Tryz.prog 75 #[.slice a len cap, .slice b len' cap'] w fun e w' => e = .returned (.bool true) ∧ Below w.heap.size w w' := by
 obtain rfl := hb.1.symm.trans ha.1
 exact laws_eqSpringS _ _ _ _ _ ss w ha hb
theorem eqFloat32S' (a b : Option Addr) (len len' cap cap' : Nat) (zs : List Nat) (w : World) (ha : IsFs .f32 w a len cap zs) (hb : IsFs .f32 w b len' cap' zs) (hl : zs.length ≤ 1048576) :
  Calls Tryz.prog 42 #[.slice a len cap, .slice b len' cap'] w fun e w' => e = .returned (.bool true) ∧ ∃ n, w' = w.drewN n := by
 obtain rfl := hb.1.symm.trans ha.1
 exact laws_eqFloat32S _ _ _ _ _ zs w ha hb (by rw [← hb.1]; exact hl)
set_option maxHeartbeats 1000000 in
theorem laws_eqBody (B B' : Bd) (c : Bc) (w : World) (h : IsB w B c) (h' : IsB w B' c) (hs : SmallB c) :
  Calls Tryz.prog 23 #[B.v, B'.v] w fun e w' => e = .returned (.bool true) ∧ Below w.heap.size w w' := by
 have ui := Tryz.underlying44
 have um := Tryz.underlying40
 have uv := Tryz.underlying42
 have u := Tryz.underlying27
 have u' := Tryz.underlying58
 have a0 : At ((w.alloc (.cells #[.slice B.pa B.pl B.pc, .slice B.ta B.tl B.tc, .slice B.sa B.sl B.sc, .float .f32 B.film, .float .f32 B.bend, .slice B.wa B.wl B.wc, .float .f32 B.x, .float .f32 B.y, .float .f32 B.z] 44)).alloc (.cells #[.slice B'.pa B'.pl B'.pc, .slice B'.ta B'.tl B'.tc, .slice B'.sa B'.sl B'.sc, .float .f32 B'.film, .float .f32 B'.bend, .slice B'.wa B'.wl B'.wc, .float .f32 B'.x, .float .f32 B'.y, .float .f32 B'.z] 44)) w.heap.size B.l := At.new.alloc
 have a1 : At ((w.alloc (.cells #[.slice B.pa B.pl B.pc, .slice B.ta B.tl B.tc, .slice B.sa B.sl B.sc, .float .f32 B.film, .float .f32 B.bend, .slice B.wa B.wl B.wc, .float .f32 B.x, .float .f32 B.y, .float .f32 B.z] 44)).alloc (.cells #[.slice B'.pa B'.pl B'.pc, .slice B'.ta B'.tl B'.tc, .slice B'.sa B'.sl B'.sc, .float .f32 B'.film, .float .f32 B'.bend, .slice B'.wa B'.wl B'.wc, .float .f32 B'.x, .float .f32 B'.y, .float .f32 B'.z] 44)) (w.heap.size + 1) B'.l := by
  have := At.new (w := w.alloc (.cells #[.slice B.pa B.pl B.pc, .slice B.ta B.tl B.tc, .slice B.sa B.sl B.sc, .float .f32 B.film, .float .f32 B.bend, .slice B.wa B.wl B.wc, .float .f32 B.x, .float .f32 B.y, .float .f32 B.z] 44)) (vs := B'.l) (t := 44)
  simpa using this
 have b0 := ((Below.refl w.heap.size w).alloc (Nat.le_refl _) (.cells #[.slice B.pa B.pl B.pc, .slice B.ta B.tl B.tc, .slice B.sa B.sl B.sc, .float .f32 B.film, .float .f32 B.bend, .slice B.wa B.wl B.wc, .float .f32 B.x, .float .f32 B.y, .float .f32 B.z] 44)).alloc (by simp) (.cells #[.slice B'.pa B'.pl B'.pc, .slice B'.ta B'.tl B'.tc, .slice B'.sa B'.sl B'.sc, .float .f32 B'.film, .float .f32 B'.bend, .slice B'.wa B'.wl B'.wc, .float .f32 B'.x, .float .f32 B'.y, .float .f32 B'.z] 44)
 have H := Lib.hid (h.below b0)
 have H' := Lib.hid (h'.below b0)
 have HS := Lib.hid hs
 have A0 := Lib.hid a0
 have A1 := Lib.hid a1
 have B0 := Lib.hid b0
 clear h h' hs a0 a1 b0
 go_enter Tryz.func23, Tryz.ntmps23
 go_wp2_with fail
 generalize ((w.alloc (.cells #[.slice B.pa B.pl B.pc, .slice B.ta B.tl B.tc, .slice B.sa B.sl B.sc, .float .f32 B.film, .float .f32 B.bend, .slice B.wa B.wl B.wc, .float .f32 B.x, .float .f32 B.y, .float .f32 B.z] 44)).alloc (.cells #[.slice B'.pa B'.pl B'.pc, .slice B'.ta B'.tl B'.tc, .slice B'.sa B'.sl B'.sc, .float .f32 B'.film, .float .f32 B'.bend, .slice B'.wa B'.wl B'.wc, .float .f32 B'.x, .float .f32 B'.y, .float .f32 B'.z] 44)) = W at *
 refine (eqMesh' _ _ _ _ _ _ _ _ _ _ _ _ c.cs c.ts _ H.out.1 H.out.2.1 H'.out.1 H'.out.2.1).mono ?_
 rintro e w1 ⟨rfl, hB1⟩
 have k2 := A0.out.below hB1 2 _ rfl
 have j2 := A1.out.below hB1 2 _ rfl
 have A2 := Lib.hid (A0.out.below hB1)
 have A3 := Lib.hid (A1.out.below hB1)
 have H1 := Lib.hid (H.out.below hB1)
 have H1' := Lib.hid (H'.out.below hB1)
 have B1 := Lib.hid (B0.out.trans (hB1.mono B0.out.size))
 clear hB1
 go_wp2_with fail
 refine (eqSpringS' _ _ _ _ _ _ c.ss _ H1.out.2.2.1 H1'.out.2.2.1).mono ?_
 rintro e w2 ⟨rfl, hB2⟩
 clear k2 j2
 have k3 := A2.out.below hB2 3 _ rfl
 have j3 := A3.out.below hB2 3 _ rfl
 have k4 := A2.out.below hB2 4 _ rfl
 have j4 := A3.out.below hB2 4 _ rfl
 have k5 := A2.out.below hB2 5 _ rfl
 have j5 := A3.out.below hB2 5 _ rfl
 have k6 := A2.out.below hB2 6 _ rfl
 have j6 := A3.out.below hB2 6 _ rfl
 have k7 := A2.out.below hB2 7 _ rfl
 have j7 := A3.out.below hB2 7 _ rfl
 have k8 := A2.out.below hB2 8 _ rfl
 have j8 := A3.out.below hB2 8 _ rfl
 have H2 := Lib.hid (H1.out.below hB2)
 have H2' := Lib.hid (H1'.out.below hB2)
 have B2 := Lib.hid (B1.out.trans (hB2.mono B1.out.size))
 clear hB2
 go_wp2_with fail
 refine (laws_sameFloat _ _ _ _ (FV_wR H2.out.2.2.2.2.1) (FV_wR H2'.out.2.2.2.2.1)).mono ?_
 rintro en w3 ⟨rfl, n1, hw3⟩
 have B3 : RowKit.Hid (Below w.heap.size w w3) := Lib.hid (by rw [hw3]; exact below_drewN (below_drewN B2.out _) _)
 have cc : ∀ a v, w2.cell? a = some v → w3.cell? a = some v := by rw [hw3]; exact fun a v h => h
 replace k4 := cc _ _ k4
 replace j4 := cc _ _ j4
 replace k5 := cc _ _ k5
 replace j5 := cc _ _ j5
 replace k6 := cc _ _ k6
 replace j6 := cc _ _ j6
 replace k7 := cc _ _ k7
 replace j7 := cc _ _ j7
 replace k8 := cc _ _ k8
 replace j8 := cc _ _ j8
 have W3 : RowKit.Hid (IsFs .f32 w3 B.wa B.wl B.wc c.zs ∧ IsFs .f32 w3 B'.wa B'.wl B'.wc c.zs) := Lib.hid (by rw [hw3]; exact ⟨H2.out.2.2.2.1, H2'.out.2.2.2.1⟩)
 clear cc hw3 k3 j3
 go_wp2_with fail
 refine (laws_sameFloat _ _ _ _ (FV_wR H2.out.2.2.2.2.2.1) (FV_wR H2'.out.2.2.2.2.2.1)).mono ?_
 rintro en w4 ⟨rfl, n2, hw4⟩
 have B4 : RowKit.Hid (Below w.heap.size w w4) := Lib.hid (by rw [hw4]; exact below_drewN (below_drewN B3.out _) _)
 have cc : ∀ a v, w3.cell? a = some v → w4.cell? a = some v := by rw [hw4]; exact fun a v h => h
 replace k5 := cc _ _ k5
 replace j5 := cc _ _ j5
 replace k6 := cc _ _ k6
 replace j6 := cc _ _ j6
 replace k7 := cc _ _ k7
 replace j7 := cc _ _ j7
 replace k8 := cc _ _ k8
 replace j8 := cc _ _ j8
 have W4 : RowKit.Hid (IsFs .f32 w4 B.wa B.wl B.wc c.zs ∧ IsFs .f32 w4 B'.wa B'.wl B'.wc c.zs) := Lib.hid (by rw [hw4]; exact W3.out)
 clear cc hw4 k4 j4
 go_wp2_with fail
 refine (eqFloat32S' _ _ _ _ _ _ c.zs _ W4.out.1 W4.out.2 HS.out.2.2).mono ?_
 rintro en w5 ⟨rfl, n3, hw5⟩
 have B5 : RowKit.Hid (Below w.heap.size w w5) := Lib.hid (by rw [hw5]; exact below_drewN B4.out _)
 have cc : ∀ a v, w4.cell? a = some v → w5.cell? a = some v := by rw [hw5]; exact fun a v h => h
 replace k6 := cc _ _ k6
 replace j6 := cc _ _ j6
 replace k7 := cc _ _ k7
 replace j7 := cc _ _ j7
 replace k8 := cc _ _ k8
 replace j8 := cc _ _ j8
 clear cc hw5 k5 j5
 go_wp2_with fail
 refine (laws_eqVector _ _ _ _ _ _ _ _ _ _ H2.out.2.2.2.2.2.2.1 H2.out.2.2.2.2.2.2.2.1 H2.out.2.2.2.2.2.2.2.2 H2'.out.2.2.2.2.2.2.1 H2'.out.2.2.2.2.2.2.2.1 H2'.out.2.2.2.2.2.2.2.2).mono ?_
 rintro en w6 ⟨rfl, hB6⟩
 have B6 := Lib.hid (B5.out.trans (hB6.mono B5.out.size))
 clear hB6
 go_wp2
 go_ret
 exact ⟨rfl, B6.out⟩
end Go.Proofs.YtabccmobmppdnaaGreat
namespace Go.Proofs.YtabccmobmppdnaaGreat
open Go Fk Go.RowKit
set_option linter.unusedVariables false
set_option maxRecDepth 8000
theorem _root_.Go.Proofs.YtabccmobmppdnaaGreat.IsFs_set {w : World} {a : Addr} {v : Value} {b len cap : Nat} {o : Nat} {zs : List Nat} (h : IsFs .f32 w (some ⟨b, o, none⟩) len cap zs) (hne : a.block ≠ b) : IsFs .f32 (w.setCell a v) (some ⟨b, o, none⟩) len cap zs := by
 obtain ⟨h1, h2, h3, h4, h5, h6⟩ := h
 refine ⟨h1, h2, h3, h4, h5, fun x hx i hi => ?_⟩
 have hc := h6 x hx i hi
 cases hx
 rw [addr_add'] at hc ⊢
 rw [World.cell?_setCell_other _ _ _ _ (by intro h; apply hne; rw [h])]; exact hc
abbrev Z9 : List Value := [.slice none 0 0, .slice none 0 0, .slice none 0 0, .float .f32 0, .float .f32 0, .slice none 0 0, .float .f32 0, .float .f32 0, .float .f32 0]
theorem ne_sl {a : Option Addr} {l c : Nat} : ∀ z, (.slice a l c : Value) ≠ .int .i64 z := fun z h => by cases h
theorem ne_fl {x : Nat} : ∀ z, (.float .f32 x : Value) ≠ .int .i64 z := fun z h => by cases h
set_option maxHeartbeats 2000000 in
theorem laws_toBody (B : Bd) (c : Bc) (w : World) (h : IsB w B c) (hs : SmallB c) :
  Calls Tryz.prog 18 #[B.v] w fun e w' => ∃ B' : Bd, e = .returned B'.v ∧ IsB w' B' c ∧ Below w.heap.size w w' := by
 have ul := Tryz.underlying32
 have ui := Tryz.underlying44
 have ulm := Tryz.underlying25
 have uim := Tryz.underlying40
 have ulv := Tryz.underlying30
 have uiv := Tryz.underlying42
 have u := Tryz.underlying27
 have hsl : B.sl ≤ 1048576 := by rw [← h.2.2.1.1]; exact hs.2.1
 have hwl : B.wl ≤ 1048576 := by rw [← h.2.2.2.1.1]; exact hs.2.2
 have H := Lib.hid h
 have HS := Lib.hid hs
 clear h hs
 go_enter Tryz.func18, Tryz.ntmps18
 go_wp2_with fail
 have a0 : At (((w.alloc (.cells #[.slice B.pa B.pl B.pc, .slice B.ta B.tl B.tc, .slice B.sa B.sl B.sc, .float .f32 B.film, .float .f32 B.bend, .slice B.wa B.wl B.wc, .float .f32 B.x, .float .f32 B.y, .float .f32 B.z] 32)).alloc (.cells #[.slice none 0 0, .slice none 0 0, .slice none 0 0, .float .f32 0, .float .f32 0, .slice none 0 0, .float .f32 0, .float .f32 0, .float .f32 0] 44)).alloc (.cells #[.slice none 0 0, .slice none 0 0, .slice none 0 0, .float .f32 0, .float .f32 0, .slice none 0 0, .float .f32 0, .float .f32 0, .float .f32 0] 44)) w.heap.size B.l := At.new.alloc.alloc
 have r0 : At (((w.alloc (.cells #[.slice B.pa B.pl B.pc, .slice B.ta B.tl B.tc, .slice B.sa B.sl B.sc, .float .f32 B.film, .float .f32 B.bend, .slice B.wa B.wl B.wc, .float .f32 B.x, .float .f32 B.y, .float .f32 B.z] 32)).alloc (.cells #[.slice none 0 0, .slice none 0 0, .slice none 0 0, .float .f32 0, .float .f32 0, .slice none 0 0, .float .f32 0, .float .f32 0, .float .f32 0] 44)).alloc (.cells #[.slice none 0 0, .slice none 0 0, .slice none 0 0, .float .f32 0, .float .f32 0, .slice none 0 0, .float .f32 0, .float .f32 0, .float .f32 0] 44)) (w.heap.size + 1) Z9 := by
  have := (At.new (w := w.alloc (.cells #[.slice B.pa B.pl B.pc, .slice B.ta B.tl B.tc, .slice B.sa B.sl B.sc, .float .f32 B.film, .float .f32 B.bend, .slice B.wa B.wl B.wc, .float .f32 B.x, .float .f32 B.y, .float .f32 B.z] 32)) (vs := Z9) (t := 44)).alloc (o := (.cells #[.slice none 0 0, .slice none 0 0, .slice none 0 0, .float .f32 0, .float .f32 0, .slice none 0 0, .float .f32 0, .float .f32 0, .float .f32 0] 44))
  simpa using this
 have o0 : At (((w.alloc (.cells #[.slice B.pa B.pl B.pc, .slice B.ta B.tl B.tc, .slice B.sa B.sl B.sc, .float .f32 B.film, .float .f32 B.bend, .slice B.wa B.wl B.wc, .float .f32 B.x, .float .f32 B.y, .float .f32 B.z] 32)).alloc (.cells #[.slice none 0 0, .slice none 0 0, .slice none 0 0, .float .f32 0, .float .f32 0, .slice none 0 0, .float .f32 0, .float .f32 0, .float .f32 0] 44)).alloc (.cells #[.slice none 0 0, .slice none 0 0, .slice none 0 0, .float .f32 0, .float .f32 0, .slice none 0 0, .float .f32 0, .float .f32 0, .float .f32 0] 44)) (w.heap.size + 1 + 1) Z9 := by
  have := (At.new (w := (w.alloc (.cells #[.slice B.pa B.pl B.pc, .slice B.ta B.tl B.tc, .slice B.sa B.sl B.sc, .float .f32 B.film, .float .f32 B.bend, .slice B.wa B.wl B.wc, .float .f32 B.x, .float .f32 B.y, .float .f32 B.z] 32)).alloc (.cells #[.slice none 0 0, .slice none 0 0, .slice none 0 0, .float .f32 0, .float .f32 0, .slice none 0 0, .float .f32 0, .float .f32 0, .float .f32 0] 44)) (vs := Z9) (t := 44))
  simpa using this
 have fr0 : Fr (((w.alloc (.cells #[.slice B.pa B.pl B.pc, .slice B.ta B.tl B.tc, .slice B.sa B.sl B.sc, .float .f32 B.film, .float .f32 B.bend, .slice B.wa B.wl B.wc, .float .f32 B.x, .float .f32 B.y, .float .f32 B.z] 32)).alloc (.cells #[.slice none 0 0, .slice none 0 0, .slice none 0 0, .float .f32 0, .float .f32 0, .slice none 0 0, .float .f32 0, .float .f32 0, .float .f32 0] 44)).alloc (.cells #[.slice none 0 0, .slice none 0 0, .slice none 0 0, .float .f32 0, .float .f32 0, .slice none 0 0, .float .f32 0, .float .f32 0, .float .f32 0] 44)) (w.heap.size + 1) := fun i => by go_simp
 have fo0 : Fr (((w.alloc (.cells #[.slice B.pa B.pl B.pc, .slice B.ta B.tl B.tc, .slice B.sa B.sl B.sc, .float .f32 B.film, .float .f32 B.bend, .slice B.wa B.wl B.wc, .float .f32 B.x, .float .f32 B.y, .float .f32 B.z] 32)).alloc (.cells #[.slice none 0 0, .slice none 0 0, .slice none 0 0, .float .f32 0, .float .f32 0, .slice none 0 0, .float .f32 0, .float .f32 0, .float .f32 0] 44)).alloc (.cells #[.slice none 0 0, .slice none 0 0, .slice none 0 0, .float .f32 0, .float .f32 0, .slice none 0 0, .float .f32 0, .float .f32 0, .float .f32 0] 44)) (w.heap.size + 1 + 1) := fun i => by go_simp
 have b0 : Below w.heap.size w (((w.alloc (.cells #[.slice B.pa B.pl B.pc, .slice B.ta B.tl B.tc, .slice B.sa B.sl B.sc, .float .f32 B.film, .float .f32 B.bend, .slice B.wa B.wl B.wc, .float .f32 B.x, .float .f32 B.y, .float .f32 B.z] 32)).alloc (.cells #[.slice none 0 0, .slice none 0 0, .slice none 0 0, .float .f32 0, .float .f32 0, .slice none 0 0, .float .f32 0, .float .f32 0, .float .f32 0] 44)).alloc (.cells #[.slice none 0 0, .slice none 0 0, .slice none 0 0, .float .f32 0, .float .f32 0, .slice none 0 0, .float .f32 0, .float .f32 0, .float .f32 0] 44)) := (((Below.refl _ _).alloc (Nat.le_refl _) _).alloc (by simp) _).alloc (by simp <;> omega) _
 generalize (((w.alloc (.cells #[.slice B.pa B.pl B.pc, .slice B.ta B.tl B.tc, .slice B.sa B.sl B.sc, .float .f32 B.film, .float .f32 B.bend, .slice B.wa B.wl B.wc, .float .f32 B.x, .float .f32 B.y, .float .f32 B.z] 32)).alloc (.cells #[.slice none 0 0, .slice none 0 0, .slice none 0 0, .float .f32 0, .float .f32 0, .slice none 0 0, .float .f32 0, .float .f32 0, .float .f32 0] 44)).alloc (.cells #[.slice none 0 0, .slice none 0 0, .slice none 0 0, .float .f32 0, .float .f32 0, .slice none 0 0, .float .f32 0, .float .f32 0, .float .f32 0] 44)) = W at *
 have A0 := Lib.hid a0
 have R0 := Lib.hid r0
 have O0 := Lib.hid o0
 have FR0 := Lib.hid fr0
 have FO0 := Lib.hid fo0
 have B0 := Lib.hid b0
 clear a0 r0 o0 fr0 fo0 b0
 have H0 := Lib.hid (H.out.below B0.out)
 refine (laws_toMesh _ _ _ _ _ _ c.cs c.ts _ H0.out.1 H0.out.2.1 HS.out.1).mono ?_
 rintro e w1 ⟨⟨b, b', rfl, hb, hb', hV, hT⟩, hB1⟩
 have l2 : w.heap.size + 1 + 1 < W.heap.size := O0.out.lt
 have A1 := Lib.hid (A0.out.below hB1)
 have R1 := Lib.hid (R0.out.below hB1)
 have O1 := Lib.hid (O0.out.below hB1)
 have FR1 := Lib.hid (FR0.out.below hB1 R0.out.lt)
 have FO1 := Lib.hid (FO0.out.below hB1 O0.out.lt)
 have B1 := Lib.hid (B0.out.trans (hB1.mono B0.out.size))
 have V1 := Lib.hid hV
 have T1 := Lib.hid hT
 have NB := Lib.hid (And.intro (show w.heap.size + 1 + 1 ≠ b by omega) (And.intro (show w.heap.size + 1 + 1 ≠ b' by omega) (And.intro (show w.heap.size + 1 ≠ b by omega) (show w.heap.size + 1 ≠ b' by omega))))
 clear hV hT hB1 hb hb' l2
 have k2 := A1.out 2 _ rfl
 have e0 := O1.out 0 _ rfl
 have e1 := O1.out 1 _ rfl
 have g0 := FO1.out 0
 have g1 := FO1.out 1
 go_wp2_with fail
 clear k2 e0 e1 g0 g1
 have b2 := (B1.out.setCell (p := ⟨w.heap.size + 1 + 1, 0, none⟩) (show w.heap.size ≤ w.heap.size + 1 + 1 by omega) (.slice (some ⟨b, 0, none⟩) B.pl B.pl)).setCell (p := ⟨w.heap.size + 1 + 1, 1, none⟩) (show w.heap.size ≤ w.heap.size + 1 + 1 by omega) (.slice (some ⟨b', 0, none⟩) B.tl B.tl)
 have a2 := (A1.out.far (a := ⟨w.heap.size + 1 + 1, 0, none⟩) (u := .slice (some ⟨b, 0, none⟩) B.pl B.pl) (show w.heap.size + 1 + 1 ≠ w.heap.size by omega)).far (a := ⟨w.heap.size + 1 + 1, 1, none⟩) (u := .slice (some ⟨b', 0, none⟩) B.tl B.tl) (show w.heap.size + 1 + 1 ≠ w.heap.size by omega)
 have r2 := (R1.out.far (a := ⟨w.heap.size + 1 + 1, 0, none⟩) (u := .slice (some ⟨b, 0, none⟩) B.pl B.pl) (show w.heap.size + 1 + 1 ≠ w.heap.size + 1 by omega)).far (a := ⟨w.heap.size + 1 + 1, 1, none⟩) (u := .slice (some ⟨b', 0, none⟩) B.tl B.tl) (show w.heap.size + 1 + 1 ≠ w.heap.size + 1 by omega)
 have o2 : At _ (w.heap.size + 1 + 1) [.slice (some ⟨b, 0, none⟩) B.pl B.pl, .slice (some ⟨b', 0, none⟩) B.tl B.tl, .slice none 0 0, .float .f32 0, .float .f32 0, .slice none 0 0, .float .f32 0, .float .f32 0, .float .f32 0] := (O1.out.set 0 (.slice (some ⟨b, 0, none⟩) B.pl B.pl)).set 1 (.slice (some ⟨b', 0, none⟩) B.tl B.tl)
 have fr2 := (FR1.out.setC (a := ⟨w.heap.size + 1 + 1, 0, none⟩) (u := .slice (some ⟨b, 0, none⟩) B.pl B.pl)).setC (a := ⟨w.heap.size + 1 + 1, 1, none⟩) (u := .slice (some ⟨b', 0, none⟩) B.tl B.tl)
 have fo2 := (FO1.out.setC (a := ⟨w.heap.size + 1 + 1, 0, none⟩) (u := .slice (some ⟨b, 0, none⟩) B.pl B.pl)).setC (a := ⟨w.heap.size + 1 + 1, 1, none⟩) (u := .slice (some ⟨b', 0, none⟩) B.tl B.tl)
 have v2 := (V1.out.set (a := ⟨w.heap.size + 1 + 1, 0, none⟩) (v := .slice (some ⟨b, 0, none⟩) B.pl B.pl) NB.out.1).set (a := ⟨w.heap.size + 1 + 1, 1, none⟩) (v := .slice (some ⟨b', 0, none⟩) B.tl B.tl) NB.out.1
 have t2 := (T1.out.setN (a := ⟨w.heap.size + 1 + 1, 0, none⟩) (v := .slice (some ⟨b, 0, none⟩) B.pl B.pl) NB.out.2.1 (O1.out 0 _ rfl) ne_sl).setN (a := ⟨w.heap.size + 1 + 1, 1, none⟩) (v := .slice (some ⟨b', 0, none⟩) B.tl B.tl) NB.out.2.1 (O1.out.set 0 _ 1 _ rfl) ne_sl
 generalize ((w1.setCell ⟨w.heap.size + 1 + 1, 0, none⟩ (.slice (some ⟨b, 0, none⟩) B.pl B.pl)).setCell ⟨w.heap.size + 1 + 1, 1, none⟩ (.slice (some ⟨b', 0, none⟩) B.tl B.tl)) = W1 at *
 have l2 : w.heap.size + 1 + 1 < W1.heap.size := o2.lt
 refine (laws_toSpringS _ _ _ c.ss _ (H.out.below b2).2.2.1 hsl).mono ?_
 rintro e w2 ⟨rfl, hSp, hB2, -⟩
 have A2 := Lib.hid (a2.below hB2)
 have R2 := Lib.hid (r2.below hB2)
 have O2 := Lib.hid (o2.below hB2)
 have FR2 := Lib.hid (fr2.below hB2 r2.lt)
 have FO2 := Lib.hid (fo2.below hB2 o2.lt)
 have B2 := Lib.hid (b2.trans (hB2.mono b2.size))
 have V2 := Lib.hid (v2.below hB2)
 have T2 := Lib.hid (t2.below hB2)
 have S2 := Lib.hid hSp
 generalize W1.heap.size = gs at *
 have NS := Lib.hid (And.intro (show w.heap.size + 1 + 1 ≠ gs by omega) (show w.heap.size + 1 ≠ gs by omega))
 clear a2 r2 o2 fr2 fo2 b2 v2 t2 hSp hB2 l2
 have k3 := A2.out 3 _ rfl
 have k4 := A2.out 4 _ rfl
 have k5 := A2.out 5 _ rfl
 have e2 := O2.out 2 _ rfl
 have e3 := O2.out 3 _ rfl
 have e4 := O2.out 4 _ rfl
 have g2 := FO2.out 2
 have g3 := FO2.out 3
 have g4 := FO2.out 4
 go_wp2_with fail
 clear k3 k4 k5 e2 e3 e4 g2 g3 g4
 have b3 := ((B2.out.setCell (p := ⟨w.heap.size + 1 + 1, 2, none⟩) (show w.heap.size ≤ w.heap.size + 1 + 1 by omega) (.slice (some ⟨gs, 0, none⟩) B.sl B.sl)).setCell (p := ⟨w.heap.size + 1 + 1, 3, none⟩) (show w.heap.size ≤ w.heap.size + 1 + 1 by omega) (.float .f32 B.film)).setCell (p := ⟨w.heap.size + 1 + 1, 4, none⟩) (show w.heap.size ≤ w.heap.size + 1 + 1 by omega) (.float .f32 B.bend)
 have a3 := ((A2.out.far (a := ⟨w.heap.size + 1 + 1, 2, none⟩) (u := (.slice (some ⟨gs, 0, none⟩) B.sl B.sl)) (show w.heap.size + 1 + 1 ≠ w.heap.size by omega)).far (a := ⟨w.heap.size + 1 + 1, 3, none⟩) (u := (.float .f32 B.film)) (show w.heap.size + 1 + 1 ≠ w.heap.size by omega)).far (a := ⟨w.heap.size + 1 + 1, 4, none⟩) (u := (.float .f32 B.bend)) (show w.heap.size + 1 + 1 ≠ w.heap.size by omega)
 have r3 := ((R2.out.far (a := ⟨w.heap.size + 1 + 1, 2, none⟩) (u := (.slice (some ⟨gs, 0, none⟩) B.sl B.sl)) (show w.heap.size + 1 + 1 ≠ w.heap.size + 1 by omega)).far (a := ⟨w.heap.size + 1 + 1, 3, none⟩) (u := (.float .f32 B.film)) (show w.heap.size + 1 + 1 ≠ w.heap.size + 1 by omega)).far (a := ⟨w.heap.size + 1 + 1, 4, none⟩) (u := (.float .f32 B.bend)) (show w.heap.size + 1 + 1 ≠ w.heap.size + 1 by omega)
 have o3 : At _ (w.heap.size + 1 + 1) [.slice (some ⟨b, 0, none⟩) B.pl B.pl, .slice (some ⟨b', 0, none⟩) B.tl B.tl, .slice (some ⟨gs, 0, none⟩) B.sl B.sl, .float .f32 B.film, .float .f32 B.bend, .slice none 0 0, .float .f32 0, .float .f32 0, .float .f32 0] := ((O2.out.set 2 (.slice (some ⟨gs, 0, none⟩) B.sl B.sl)).set 3 (.float .f32 B.film)).set 4 (.float .f32 B.bend)
 have fr3 := ((FR2.out.setC (a := ⟨w.heap.size + 1 + 1, 2, none⟩) (u := (.slice (some ⟨gs, 0, none⟩) B.sl B.sl))).setC (a := ⟨w.heap.size + 1 + 1, 3, none⟩) (u := (.float .f32 B.film))).setC (a := ⟨w.heap.size + 1 + 1, 4, none⟩) (u := (.float .f32 B.bend))
 have fo3 := ((FO2.out.setC (a := ⟨w.heap.size + 1 + 1, 2, none⟩) (u := (.slice (some ⟨gs, 0, none⟩) B.sl B.sl))).setC (a := ⟨w.heap.size + 1 + 1, 3, none⟩) (u := (.float .f32 B.film))).setC (a := ⟨w.heap.size + 1 + 1, 4, none⟩) (u := (.float .f32 B.bend))
 have v3 := ((V2.out.set (a := ⟨w.heap.size + 1 + 1, 2, none⟩) (v := (.slice (some ⟨gs, 0, none⟩) B.sl B.sl)) NB.out.1).set (a := ⟨w.heap.size + 1 + 1, 3, none⟩) (v := (.float .f32 B.film)) NB.out.1).set (a := ⟨w.heap.size + 1 + 1, 4, none⟩) (v := (.float .f32 B.bend)) NB.out.1
 have s3 := ((S2.out.set (a := ⟨w.heap.size + 1 + 1, 2, none⟩) (v := (.slice (some ⟨gs, 0, none⟩) B.sl B.sl)) NS.out.1).set (a := ⟨w.heap.size + 1 + 1, 3, none⟩) (v := (.float .f32 B.film)) NS.out.1).set (a := ⟨w.heap.size + 1 + 1, 4, none⟩) (v := (.float .f32 B.bend)) NS.out.1
 have t3 := ((T2.out.setN (a := ⟨w.heap.size + 1 + 1, 2, none⟩) (v := (.slice (some ⟨gs, 0, none⟩) B.sl B.sl)) NB.out.2.1 (O2.out 2 _ rfl) ne_sl).setN (a := ⟨w.heap.size + 1 + 1, 3, none⟩) (v := (.float .f32 B.film)) NB.out.2.1 (O2.out.set 2 _ 3 _ rfl) ne_fl).setN (a := ⟨w.heap.size + 1 + 1, 4, none⟩) (v := (.float .f32 B.bend)) NB.out.2.1 ((O2.out.set 2 _).set 3 _ 4 _ rfl) ne_fl
 generalize (((w2.setCell ⟨w.heap.size + 1 + 1, 2, none⟩ (.slice (some ⟨gs, 0, none⟩) B.sl B.sl)).setCell ⟨w.heap.size + 1 + 1, 3, none⟩ (.float .f32 B.film)).setCell ⟨w.heap.size + 1 + 1, 4, none⟩ (.float .f32 B.bend)) = W2 at *
 have l3 : w.heap.size + 1 + 1 < W2.heap.size := o3.lt
 refine (laws_toFloat32S' _ _ _ c.zs _ (H.out.below b3).2.2.2.1 hwl).mono ?_
 rintro e w3 ⟨rfl, hFs, hB3, -⟩
 have A3 := Lib.hid (a3.below hB3)
 have R3 := Lib.hid (r3.below hB3)
 have O3 := Lib.hid (o3.below hB3)
 have FR3 := Lib.hid (fr3.below hB3 r3.lt)
 have FO3 := Lib.hid (fo3.below hB3 o3.lt)
 have B3 := Lib.hid (b3.trans (hB3.mono b3.size))
 have V3' := Lib.hid (v3.below hB3)
 have S3 := Lib.hid (s3.below hB3)
 have T3 := Lib.hid (t3.below hB3)
 have F3 := Lib.hid hFs
 generalize W2.heap.size = gw at *
 have NW := Lib.hid (And.intro (show w.heap.size + 1 + 1 ≠ gw by omega) (show w.heap.size + 1 ≠ gw by omega))
 clear a3 r3 o3 fr3 fo3 b3 v3 s3 t3 hFs hB3 l3
 have k6 := A3.out 6 _ rfl
 have k7 := A3.out 7 _ rfl
 have k8 := A3.out 8 _ rfl
 have e5 := O3.out 5 _ rfl
 have g5 := FO3.out 5
 go_wp2_with fail
 clear k6 k7 k8 e5 g5
 have b4 := B3.out.setCell (p := ⟨w.heap.size + 1 + 1, 5, none⟩) (show w.heap.size ≤ w.heap.size + 1 + 1 by omega) (.slice (some ⟨gw, 0, none⟩) B.wl B.wl)
 have r4 := R3.out.far (a := ⟨w.heap.size + 1 + 1, 5, none⟩) (u := (.slice (some ⟨gw, 0, none⟩) B.wl B.wl)) (show w.heap.size + 1 + 1 ≠ w.heap.size + 1 by omega)
 have o4 : At _ (w.heap.size + 1 + 1) [.slice (some ⟨b, 0, none⟩) B.pl B.pl, .slice (some ⟨b', 0, none⟩) B.tl B.tl, .slice (some ⟨gs, 0, none⟩) B.sl B.sl, .float .f32 B.film, .float .f32 B.bend, .slice (some ⟨gw, 0, none⟩) B.wl B.wl, .float .f32 0, .float .f32 0, .float .f32 0] := O3.out.set 5 (.slice (some ⟨gw, 0, none⟩) B.wl B.wl)
 have fr4 := FR3.out.setC (a := ⟨w.heap.size + 1 + 1, 5, none⟩) (u := (.slice (some ⟨gw, 0, none⟩) B.wl B.wl))
 have fo4 := FO3.out.setC (a := ⟨w.heap.size + 1 + 1, 5, none⟩) (u := (.slice (some ⟨gw, 0, none⟩) B.wl B.wl))
 have v4 := V3'.out.set (a := ⟨w.heap.size + 1 + 1, 5, none⟩) (v := (.slice (some ⟨gw, 0, none⟩) B.wl B.wl)) NB.out.1
 have s4 := S3.out.set (a := ⟨w.heap.size + 1 + 1, 5, none⟩) (v := (.slice (some ⟨gw, 0, none⟩) B.wl B.wl)) NS.out.1
 have t4 := T3.out.setN (a := ⟨w.heap.size + 1 + 1, 5, none⟩) (v := (.slice (some ⟨gw, 0, none⟩) B.wl B.wl)) NB.out.2.1 (O3.out 5 _ rfl) ne_sl
 have f4 := IsFs_set (a := ⟨w.heap.size + 1 + 1, 5, none⟩) (v := (.slice (some ⟨gw, 0, none⟩) B.wl B.wl)) F3.out NW.out.1
 generalize (w3.setCell ⟨w.heap.size + 1 + 1, 5, none⟩ (.slice (some ⟨gw, 0, none⟩) B.wl B.wl)) = W3 at *
 refine (laws_toVector _ _ _ _).mono ?_
 rintro e w4 ⟨rfl, hB4⟩
 have R4 := Lib.hid (r4.below hB4)
 have O4 := Lib.hid (o4.below hB4)
 have FR4 := Lib.hid (fr4.below hB4 r4.lt)
 have FO4 := Lib.hid (fo4.below hB4 o4.lt)
 have B4 := Lib.hid (b4.trans (hB4.mono b4.size))
 have V4 := Lib.hid (v4.below hB4)
 have S4 := Lib.hid (s4.below hB4)
 have T4 := Lib.hid (t4.below hB4)
 have F4 := Lib.hid (IsFs_below hB4 f4)
 clear r4 o4 fr4 fo4 b4 v4 s4 t4 f4 hB4
 have e0 := O4.out 0 _ rfl
 have e1 := O4.out 1 _ rfl
 have e2 := O4.out 2 _ rfl
 have e3 := O4.out 3 _ rfl
 have e4 := O4.out 4 _ rfl
 have e5 := O4.out 5 _ rfl
 have e6 := O4.out 6 _ rfl
 have e7 := O4.out 7 _ rfl
 have e8 := O4.out 8 _ rfl
 have g6 := FO4.out 6
 have g7 := FO4.out 7
 have g8 := FO4.out 8
 have q0 := R4.out 0 _ rfl
 have p0 := FR4.out 0
 have q1 := R4.out 1 _ rfl
 have p1 := FR4.out 1
 have q2 := R4.out 2 _ rfl
 have p2 := FR4.out 2
 have q3 := R4.out 3 _ rfl
 have p3 := FR4.out 3
 have q4 := R4.out 4 _ rfl
 have p4 := FR4.out 4
 have q5 := R4.out 5 _ rfl
 have p5 := FR4.out 5
 have q6 := R4.out 6 _ rfl
 have p6 := FR4.out 6
 have q7 := R4.out 7 _ rfl
 have p7 := FR4.out 7
 have q8 := R4.out 8 _ rfl
 have p8 := FR4.out 8
 have HR : RowKit.Hid (At _ (w.heap.size + 1) [.slice (some ⟨b, 0, none⟩) B.pl B.pl, .slice (some ⟨b', 0, none⟩) B.tl B.tl, .slice (some ⟨gs, 0, none⟩) B.sl B.sl, .float .f32 B.film, .float .f32 B.bend, .slice (some ⟨gw, 0, none⟩) B.wl B.wl, .float .f32 B.x, .float .f32 B.y, .float .f32 B.z]) := Lib.hid ((((((((((((R4.out.far (a := ⟨w.heap.size + 1 + 1, 6, none⟩) (u := .float .f32 B.x) (show w.heap.size + 1 + 1 ≠ w.heap.size + 1 by omega)).far (a := ⟨w.heap.size + 1 + 1, 7, none⟩) (u := .float .f32 B.y) (show w.heap.size + 1 + 1 ≠ w.heap.size + 1 by omega)).far (a := ⟨w.heap.size + 1 + 1, 8, none⟩) (u := .float .f32 B.z) (show w.heap.size + 1 + 1 ≠ w.heap.size + 1 by omega)).set 0 (.slice (some ⟨b, 0, none⟩) B.pl B.pl)).set 1 (.slice (some ⟨b', 0, none⟩) B.tl B.tl)).set 2 (.slice (some ⟨gs, 0, none⟩) B.sl B.sl)).set 3 (.float .f32 B.film)).set 4 (.float .f32 B.bend)).set 5 (.slice (some ⟨gw, 0, none⟩) B.wl B.wl)).set 6 (.float .f32 B.x)).set 7 (.float .f32 B.y)).set 8 (.float .f32 B.z))
 have HB := Lib.hid ((((((((((((B4.out.setCell (p := ⟨w.heap.size + 1 + 1, 6, none⟩) (show w.heap.size ≤ w.heap.size + 1 + 1 by omega) (.float .f32 B.x)).setCell (p := ⟨w.heap.size + 1 + 1, 7, none⟩) (show w.heap.size ≤ w.heap.size + 1 + 1 by omega) (.float .f32 B.y)).setCell (p := ⟨w.heap.size + 1 + 1, 8, none⟩) (show w.heap.size ≤ w.heap.size + 1 + 1 by omega) (.float .f32 B.z)).setCell (p := ⟨w.heap.size + 1, 0, none⟩) (show w.heap.size ≤ w.heap.size + 1 by omega) (.slice (some ⟨b, 0, none⟩) B.pl B.pl)).setCell (p := ⟨w.heap.size + 1, 1, none⟩) (show w.heap.size ≤ w.heap.size + 1 by omega) (.slice (some ⟨b', 0, none⟩) B.tl B.tl)).setCell (p := ⟨w.heap.size + 1, 2, none⟩) (show w.heap.size ≤ w.heap.size + 1 by omega) (.slice (some ⟨gs, 0, none⟩) B.sl B.sl)).setCell (p := ⟨w.heap.size + 1, 3, none⟩) (show w.heap.size ≤ w.heap.size + 1 by omega) (.float .f32 B.film)).setCell (p := ⟨w.heap.size + 1, 4, none⟩) (show w.heap.size ≤ w.heap.size + 1 by omega) (.float .f32 B.bend)).setCell (p := ⟨w.heap.size + 1, 5, none⟩) (show w.heap.size ≤ w.heap.size + 1 by omega) (.slice (some ⟨gw, 0, none⟩) B.wl B.wl)).setCell (p := ⟨w.heap.size + 1, 6, none⟩) (show w.heap.size ≤ w.heap.size + 1 by omega) (.float .f32 B.x)).setCell (p := ⟨w.heap.size + 1, 7, none⟩) (show w.heap.size ≤ w.heap.size + 1 by omega) (.float .f32 B.y)).setCell (p := ⟨w.heap.size + 1, 8, none⟩) (show w.heap.size ≤ w.heap.size + 1 by omega) (.float .f32 B.z))
 have HV := Lib.hid ((((((((((((V4.out.set (a := ⟨w.heap.size + 1 + 1, 6, none⟩) (v := .float .f32 B.x) NB.out.1).set (a := ⟨w.heap.size + 1 + 1, 7, none⟩) (v := .float .f32 B.y) NB.out.1).set (a := ⟨w.heap.size + 1 + 1, 8, none⟩) (v := .float .f32 B.z) NB.out.1).set (a := ⟨w.heap.size + 1, 0, none⟩) (v := .slice (some ⟨b, 0, none⟩) B.pl B.pl) NB.out.2.2.1).set (a := ⟨w.heap.size + 1, 1, none⟩) (v := .slice (some ⟨b', 0, none⟩) B.tl B.tl) NB.out.2.2.1).set (a := ⟨w.heap.size + 1, 2, none⟩) (v := .slice (some ⟨gs, 0, none⟩) B.sl B.sl) NB.out.2.2.1).set (a := ⟨w.heap.size + 1, 3, none⟩) (v := .float .f32 B.film) NB.out.2.2.1).set (a := ⟨w.heap.size + 1, 4, none⟩) (v := .float .f32 B.bend) NB.out.2.2.1).set (a := ⟨w.heap.size + 1, 5, none⟩) (v := .slice (some ⟨gw, 0, none⟩) B.wl B.wl) NB.out.2.2.1).set (a := ⟨w.heap.size + 1, 6, none⟩) (v := .float .f32 B.x) NB.out.2.2.1).set (a := ⟨w.heap.size + 1, 7, none⟩) (v := .float .f32 B.y) NB.out.2.2.1).set (a := ⟨w.heap.size + 1, 8, none⟩) (v := .float .f32 B.z) NB.out.2.2.1)
 have HSp := Lib.hid ((((((((((((S4.out.set (a := ⟨w.heap.size + 1 + 1, 6, none⟩) (v := .float .f32 B.x) NS.out.1).set (a := ⟨w.heap.size + 1 + 1, 7, none⟩) (v := .float .f32 B.y) NS.out.1).set (a := ⟨w.heap.size + 1 + 1, 8, none⟩) (v := .float .f32 B.z) NS.out.1).set (a := ⟨w.heap.size + 1, 0, none⟩) (v := .slice (some ⟨b, 0, none⟩) B.pl B.pl) NS.out.2).set (a := ⟨w.heap.size + 1, 1, none⟩) (v := .slice (some ⟨b', 0, none⟩) B.tl B.tl) NS.out.2).set (a := ⟨w.heap.size + 1, 2, none⟩) (v := .slice (some ⟨gs, 0, none⟩) B.sl B.sl) NS.out.2).set (a := ⟨w.heap.size + 1, 3, none⟩) (v := .float .f32 B.film) NS.out.2).set (a := ⟨w.heap.size + 1, 4, none⟩) (v := .float .f32 B.bend) NS.out.2).set (a := ⟨w.heap.size + 1, 5, none⟩) (v := .slice (some ⟨gw, 0, none⟩) B.wl B.wl) NS.out.2).set (a := ⟨w.heap.size + 1, 6, none⟩) (v := .float .f32 B.x) NS.out.2).set (a := ⟨w.heap.size + 1, 7, none⟩) (v := .float .f32 B.y) NS.out.2).set (a := ⟨w.heap.size + 1, 8, none⟩) (v := .float .f32 B.z) NS.out.2)
 have HF := Lib.hid (IsFs_set (a := ⟨w.heap.size + 1, 8, none⟩) (v := .float .f32 B.z) (IsFs_set (a := ⟨w.heap.size + 1, 7, none⟩) (v := .float .f32 B.y) (IsFs_set (a := ⟨w.heap.size + 1, 6, none⟩) (v := .float .f32 B.x) (IsFs_set (a := ⟨w.heap.size + 1, 5, none⟩) (v := .slice (some ⟨gw, 0, none⟩) B.wl B.wl) (IsFs_set (a := ⟨w.heap.size + 1, 4, none⟩) (v := .float .f32 B.bend) (IsFs_set (a := ⟨w.heap.size + 1, 3, none⟩) (v := .float .f32 B.film) (IsFs_set (a := ⟨w.heap.size + 1, 2, none⟩) (v := .slice (some ⟨gs, 0, none⟩) B.sl B.sl) (IsFs_set (a := ⟨w.heap.size + 1, 1, none⟩) (v := .slice (some ⟨b', 0, none⟩) B.tl B.tl) (IsFs_set (a := ⟨w.heap.size + 1, 0, none⟩) (v := .slice (some ⟨b, 0, none⟩) B.pl B.pl) (IsFs_set (a := ⟨w.heap.size + 1 + 1, 8, none⟩) (v := .float .f32 B.z) (IsFs_set (a := ⟨w.heap.size + 1 + 1, 7, none⟩) (v := .float .f32 B.y) (IsFs_set (a := ⟨w.heap.size + 1 + 1, 6, none⟩) (v := .float .f32 B.x) F4.out NW.out.1) NW.out.1) NW.out.1) NW.out.2) NW.out.2) NW.out.2) NW.out.2) NW.out.2) NW.out.2) NW.out.2) NW.out.2) NW.out.2)
 have HT := Lib.hid ((((((((((((T4.out.setN (a := ⟨w.heap.size + 1 + 1, 6, none⟩) (v := .float .f32 B.x) NB.out.2.1 (O4.out 6 _ rfl) ne_fl).setN (a := ⟨w.heap.size + 1 + 1, 7, none⟩) (v := .float .f32 B.y) NB.out.2.1 ((O4.out.set 6 (.float .f32 B.x)) 7 _ rfl) ne_fl).setN (a := ⟨w.heap.size + 1 + 1, 8, none⟩) (v := .float .f32 B.z) NB.out.2.1 (((O4.out.set 6 (.float .f32 B.x)).set 7 (.float .f32 B.y)) 8 _ rfl) ne_fl).setN (a := ⟨w.heap.size + 1, 0, none⟩) (v := .slice (some ⟨b, 0, none⟩) B.pl B.pl) NB.out.2.2.2 ((((R4.out.far (a := ⟨w.heap.size + 1 + 1, 6, none⟩) (u := .float .f32 B.x) (show w.heap.size + 1 + 1 ≠ w.heap.size + 1 by omega)).far (a := ⟨w.heap.size + 1 + 1, 7, none⟩) (u := .float .f32 B.y) (show w.heap.size + 1 + 1 ≠ w.heap.size + 1 by omega)).far (a := ⟨w.heap.size + 1 + 1, 8, none⟩) (u := .float .f32 B.z) (show w.heap.size + 1 + 1 ≠ w.heap.size + 1 by omega)) 0 _ rfl) ne_sl).setN (a := ⟨w.heap.size + 1, 1, none⟩) (v := .slice (some ⟨b', 0, none⟩) B.tl B.tl) NB.out.2.2.2 (((((R4.out.far (a := ⟨w.heap.size + 1 + 1, 6, none⟩) (u := .float .f32 B.x) (show w.heap.size + 1 + 1 ≠ w.heap.size + 1 by omega)).far (a := ⟨w.heap.size + 1 + 1, 7, none⟩) (u := .float .f32 B.y) (show w.heap.size + 1 + 1 ≠ w.heap.size + 1 by omega)).far (a := ⟨w.heap.size + 1 + 1, 8, none⟩) (u := .float .f32 B.z) (show w.heap.size + 1 + 1 ≠ w.heap.size + 1 by omega)).set 0 (.slice (some ⟨b, 0, none⟩) B.pl B.pl)) 1 _ rfl) ne_sl).setN (a := ⟨w.heap.size + 1, 2, none⟩) (v := .slice (some ⟨gs, 0, none⟩) B.sl B.sl) NB.out.2.2.2 ((((((R4.out.far (a := ⟨w.heap.size + 1 + 1, 6, none⟩) (u := .float .f32 B.x) (show w.heap.size + 1 + 1 ≠ w.heap.size + 1 by omega)).far (a := ⟨w.heap.size + 1 + 1, 7, none⟩) (u := .float .f32 B.y) (show w.heap.size + 1 + 1 ≠ w.heap.size + 1 by omega)).far (a := ⟨w.heap.size + 1 + 1, 8, none⟩) (u := .float .f32 B.z) (show w.heap.size + 1 + 1 ≠ w.heap.size + 1 by omega)).set 0 (.slice (some ⟨b, 0, none⟩) B.pl B.pl)).set 1 (.slice (some ⟨b', 0, none⟩) B.tl B.tl)) 2 _ rfl) ne_sl).setN (a := ⟨w.heap.size + 1, 3, none⟩) (v := .float .f32 B.film) NB.out.2.2.2 (((((((R4.out.far (a := ⟨w.heap.size + 1 + 1, 6, none⟩) (u := .float .f32 B.x) (show w.heap.size + 1 + 1 ≠ w.heap.size + 1 by omega)).far (a := ⟨w.heap.size + 1 + 1, 7, none⟩) (u := .float .f32 B.y) (show w.heap.size + 1 + 1 ≠ w.heap.size + 1 by omega)).far (a := ⟨w.heap.size + 1 + 1, 8, none⟩) (u := .float .f32 B.z) (show w.heap.size + 1 + 1 ≠ w.heap.size + 1 by omega)).set 0 (.slice (some ⟨b, 0, none⟩) B.pl B.pl)).set 1 (.slice (some ⟨b', 0, none⟩) B.tl B.tl)).set 2 (.slice (some ⟨gs, 0, none⟩) B.sl B.sl)) 3 _ rfl) ne_fl).setN (a := ⟨w.heap.size + 1, 4, none⟩) (v := .float .f32 B.bend) NB.out.2.2.2 ((((((((R4.out.far (a := ⟨w.heap.size + 1 + 1, 6, none⟩) (u := .float .f32 B.x) (show w.heap.size + 1 + 1 ≠ w.heap.size + 1 by omega)).far (a := ⟨w.heap.size + 1 + 1, 7, none⟩) (u := .float .f32 B.y) (show w.heap.size + 1 + 1 ≠ w.heap.size + 1 by omega)).far (a := ⟨w.heap.size + 1 + 1, 8, none⟩) (u := .float .f32 B.z) (show w.heap.size + 1 + 1 ≠ w.heap.size + 1 by omega)).set 0 (.slice (some ⟨b, 0, none⟩) B.pl B.pl)).set 1 (.slice (some ⟨b', 0, none⟩) B.tl B.tl)).set 2 (.slice (some ⟨gs, 0, none⟩) B.sl B.sl)).set 3 (.float .f32 B.film)) 4 _ rfl) ne_fl).setN (a := ⟨w.heap.size + 1, 5, none⟩) (v := .slice (some ⟨gw, 0, none⟩) B.wl B.wl) NB.out.2.2.2 (((((((((R4.out.far (a := ⟨w.heap.size + 1 + 1, 6, none⟩) (u := .float .f32 B.x) (show w.heap.size + 1 + 1 ≠ w.heap.size + 1 by omega)).far (a := ⟨w.heap.size + 1 + 1, 7, none⟩) (u := .float .f32 B.y) (show w.heap.size + 1 + 1 ≠ w.heap.size + 1 by omega)).far (a := ⟨w.heap.size + 1 + 1, 8, none⟩) (u := .float .f32 B.z) (show w.heap.size + 1 + 1 ≠ w.heap.size + 1 by omega)).set 0 (.slice (some ⟨b, 0, none⟩) B.pl B.pl)).set 1 (.slice (some ⟨b', 0, none⟩) B.tl B.tl)).set 2 (.slice (some ⟨gs, 0, none⟩) B.sl B.sl)).set 3 (.float .f32 B.film)).set 4 (.float .f32 B.bend)) 5 _ rfl) ne_sl).setN (a := ⟨w.heap.size + 1, 6, none⟩) (v := .float .f32 B.x) NB.out.2.2.2 ((((((((((R4.out.far (a := ⟨w.heap.size + 1 + 1, 6, none⟩) (u := .float .f32 B.x) (show w.heap.size + 1 + 1 ≠ w.heap.size + 1 by omega)).far (a := ⟨w.heap.size + 1 + 1, 7, none⟩) (u := .float .f32 B.y) (show w.heap.size + 1 + 1 ≠ w.heap.size + 1 by omega)).far (a := ⟨w.heap.size + 1 + 1, 8, none⟩) (u := .float .f32 B.z) (show w.heap.size + 1 + 1 ≠ w.heap.size + 1 by omega)).set 0 (.slice (some ⟨b, 0, none⟩) B.pl B.pl)).set 1 (.slice (some ⟨b', 0, none⟩) B.tl B.tl)).set 2 (.slice (some ⟨gs, 0, none⟩) B.sl B.sl)).set 3 (.float .f32 B.film)).set 4 (.float .f32 B.bend)).set 5 (.slice (some ⟨gw, 0, none⟩) B.wl B.wl)) 6 _ rfl) ne_fl).setN (a := ⟨w.heap.size + 1, 7, none⟩) (v := .float .f32 B.y) NB.out.2.2.2 (((((((((((R4.out.far (a := ⟨w.heap.size + 1 + 1, 6, none⟩) (u := .float .f32 B.x) (show w.heap.size + 1 + 1 ≠ w.heap.size + 1 by omega)).far (a := ⟨w.heap.size + 1 + 1, 7, none⟩) (u := .float .f32 B.y) (show w.heap.size + 1 + 1 ≠ w.heap.size + 1 by omega)).far (a := ⟨w.heap.size + 1 + 1, 8, none⟩) (u := .float .f32 B.z) (show w.heap.size + 1 + 1 ≠ w.heap.size + 1 by omega)).set 0 (.slice (some ⟨b, 0, none⟩) B.pl B.pl)).set 1 (.slice (some ⟨b', 0, none⟩) B.tl B.tl)).set 2 (.slice (some ⟨gs, 0, none⟩) B.sl B.sl)).set 3 (.float .f32 B.film)).set 4 (.float .f32 B.bend)).set 5 (.slice (some ⟨gw, 0, none⟩) B.wl B.wl)).set 6 (.float .f32 B.x)) 7 _ rfl) ne_fl).setN (a := ⟨w.heap.size + 1, 8, none⟩) (v := .float .f32 B.z) NB.out.2.2.2 ((((((((((((R4.out.far (a := ⟨w.heap.size + 1 + 1, 6, none⟩) (u := .float .f32 B.x) (show w.heap.size + 1 + 1 ≠ w.heap.size + 1 by omega)).far (a := ⟨w.heap.size + 1 + 1, 7, none⟩) (u := .float .f32 B.y) (show w.heap.size + 1 + 1 ≠ w.heap.size + 1 by omega)).far (a := ⟨w.heap.size + 1 + 1, 8, none⟩) (u := .float .f32 B.z) (show w.heap.size + 1 + 1 ≠ w.heap.size + 1 by omega)).set 0 (.slice (some ⟨b, 0, none⟩) B.pl B.pl)).set 1 (.slice (some ⟨b', 0, none⟩) B.tl B.tl)).set 2 (.slice (some ⟨gs, 0, none⟩) B.sl B.sl)).set 3 (.float .f32 B.film)).set 4 (.float .f32 B.bend)).set 5 (.slice (some ⟨gw, 0, none⟩) B.wl B.wl)).set 6 (.float .f32 B.x)).set 7 (.float .f32 B.y)) 8 _ rfl) ne_fl)
 go_wp2
 clear e0 e1 e2 e3 e4 e5 e6 e7 e8 g6 g7 g8 q0 q1 q2 q3 q4 q5 q6 q7 q8 p0 p1 p2 p3 p4 p5 p6 p7 p8
 have m0 := HR.out 0 _ rfl
 have m1 := HR.out 1 _ rfl
 have m2 := HR.out 2 _ rfl
 have m3 := HR.out 3 _ rfl
 have m4 := HR.out 4 _ rfl
 have m5 := HR.out 5 _ rfl
 have m6 := HR.out 6 _ rfl
 have m7 := HR.out 7 _ rfl
 have m8 := HR.out 8 _ rfl
 refine bodyPost_ret (v := (⟨some ⟨b, 0, none⟩, some ⟨b', 0, none⟩, some ⟨gs, 0, none⟩, some ⟨gw, 0, none⟩, B.pl, B.pl, B.tl, B.tl, B.sl, B.sl, B.wl, B.wl, B.film, B.bend, B.x, B.y, B.z⟩ : Bd).v) (by simp [results, Tryz.results18, go_sem, m0, m1, m2, m3, m4, m5, m6, m7, m8]) rfl ⟨_, rfl, ⟨HV.out, HT.out, HSp.out, HF.out, H.out.2.2.2.2⟩, HB.out⟩
end Go.Proofs.YtabccmobmppdnaaGreat
namespace Go.Proofs.YtabccmobmppdnaaGreat
open Go Fk Go.RowKit
set_option linter.unusedVariables false
set_option maxRecDepth 8000
def inB (n : Nat) (z : Int) : Bool := decide (0 ≤ z ∧ z < n)
def triB (n : Nat) (t : List Int) : Bool := decide (t.length = 3) && (inB n (t.getD 0 0) && inB n (t.getD 1 0) && inB n (t.getD 2 0)) && (decide (t.getD 0 0 ≠ t.getD 1 0) && decide (t.getD 1 0 ≠ t.getD 2 0) && decide (t.getD 0 0 ≠ t.getD 2 0))
theorem l00In (z : Int) (n : Nat) (w : World) :
  Calls Tryz.prog 80 #[.int .i64 z, .int .i64 0, .int .i64 ((n : Int) - 1)] w fun e w' => e = .returned (.bool (inB n z)) ∧ w' = w := by
 generalize hb : inB n z = b
 have H := Lib.hid hb
 clear hb
 by_cases h1 : 0 ≤ z
 ·by_cases h2 : z < n
  ·have h3 : z ≤ (n : Int) - 1 := by omega
   clear h2
   go_enter Tryz.func80, Tryz.ntmps80
   go_wp2
   go_ret
   exact ⟨ret_bool (by rw [← H.out]; exact (decide_eq_true ⟨h1, by omega⟩).symm), rfl⟩
  ·have h3 : ¬ z ≤ (n : Int) - 1 := by omega
   clear h2
   go_enter Tryz.func80, Tryz.ntmps80
   go_wp2
   go_ret
   exact ⟨ret_bool (by rw [← H.out]; exact (decide_eq_false (fun h => by have := h.2; omega)).symm), rfl⟩
 ·go_enter Tryz.func80, Tryz.ntmps80
  go_wp2
  go_ret
  exact ⟨ret_bool (by rw [← H.out]; exact (decide_eq_false (fun h => by have := h.1; omega)).symm), rfl⟩
theorem impl_isIndex (z : Int) (n : Nat) (w : World) :
  Calls Tryz.prog 103 #[.int .i64 z, .int .i64 n] w fun e w' => e = .returned (.bool (inB n z)) ∧ w' = w := by
 generalize hb : inB n z = b
 have H := Lib.hid hb
 clear hb
 by_cases h1 : 0 ≤ z
 ·by_cases h2 : z < n
  ·go_enter Tryz.func103, Tryz.ntmps103
   go_wp2
   go_ret
   exact ⟨ret_bool (by rw [← H.out]; exact (decide_eq_true ⟨h1, by omega⟩).symm), rfl⟩
  ·go_enter Tryz.func103, Tryz.ntmps103
   go_wp2
   go_ret
   exact ⟨ret_bool (by rw [← H.out]; exact (decide_eq_false (fun h => by have := h.2; omega)).symm), rfl⟩
 ·go_enter Tryz.func103, Tryz.ntmps103
  go_wp2
  go_ret
  exact ⟨ret_bool (by rw [← H.out]; exact (decide_eq_false (fun h => by have := h.1; omega)).symm), rfl⟩
set_option maxHeartbeats 1000000 in
theorem l02Triangle (a : Option Addr) (len cap : Nat) (t : List Int) (n : Nat) (w : World) (h : IsIs w a len cap t) (hn : (n : Int) ≤ 9223372036854775807) :
  Calls Tryz.prog 178 #[.slice a len cap, .int .i64 n] w fun e w' => e = .returned (.bool (triB n t)) ∧ ∃ k, w' = w.drewN k := by
 have hl := h.1
 by_cases h3 : len = 3
 ·subst h3
  obtain ⟨b, o, rfl, hcell⟩ := h.some (by decide)
  have c0 := hcell 0 (by decide)
  have c1 := hcell 1 (by decide)
  have c2 := hcell 2 (by decide)
  simp only [Nat.add_zero] at c0
  unfold triB
  rw [hl, decide_eq_true rfl]
  have e1 : IntKind.i64.wrap ((n : Int) - 1) = (n : Int) - 1 := IntWalk.i64_in _ (by omega)
  generalize t.getD 0 0 = z0 at *
  generalize t.getD 1 0 = z1 at *
  generalize t.getD 2 0 = z2 at *
  clear h hcell hl hn
  generalize hi0 : inB n z0 = i0
  generalize hi1 : inB n z1 = i1
  generalize hi2 : inB n z2 = i2
  have I0 := Lib.hid hi0
  have I1 := Lib.hid hi1
  have I2 := Lib.hid hi2
  have J0 : ∀ w, Calls Tryz.prog 80 #[.int .i64 z0, .int .i64 0, .int .i64 ((n : Int) - 1)] w fun e w' => e = .returned (.bool i0) ∧ w' = w := fun w => (l00In z0 n w).mono (by rintro _ _ ⟨rfl, rfl⟩; exact ⟨by rw [hi0], rfl⟩)
  have J1 : ∀ w, Calls Tryz.prog 80 #[.int .i64 z1, .int .i64 0, .int .i64 ((n : Int) - 1)] w fun e w' => e = .returned (.bool i1) ∧ w' = w := fun w => (l00In z1 n w).mono (by rintro _ _ ⟨rfl, rfl⟩; exact ⟨by rw [hi1], rfl⟩)
  have J2 : ∀ w, Calls Tryz.prog 80 #[.int .i64 z2, .int .i64 0, .int .i64 ((n : Int) - 1)] w fun e w' => e = .returned (.bool i2) ∧ w' = w := fun w => (l00In z2 n w).mono (by rintro _ _ ⟨rfl, rfl⟩; exact ⟨by rw [hi2], rfl⟩)
  have K0 := Lib.hid J0
  have K1 := Lib.hid J1
  have K2 := Lib.hid J2
  clear J0 J1 J2 hi0 hi1 hi2 I0 I1 I2
  by_cases h01 : z0 = z1
  ·have d01 : decide (z0 = z1) = true := decide_eq_true h01
   have hne : decide (z0 ≠ z1) = false := decide_eq_false (fun h => h h01)
   rw [hne]
   clear hne
   go_enter Tryz.func178, Tryz.ntmps178
   go_wp2_with fail
   go_quiet (fail)
   go_wp2
   go_ret
   exact ⟨ret_bool (by simp), _, rfl⟩
  ·have d01 : (z0 == z1) = false := beq_eq_false_iff_ne.2 h01
   have hne01 : decide (z0 ≠ z1) = true := decide_eq_true h01
   rw [hne01]
   clear hne01
   by_cases h12 : z1 = z2
   ·have d12 : decide (z1 = z2) = true := decide_eq_true h12
    have hne : decide (z1 ≠ z2) = false := decide_eq_false (fun h => h h12)
    rw [hne]
    clear hne d12
    have hs : z2 = z1 := h12.symm
    clear h12
    subst hs
    go_enter Tryz.func178, Tryz.ntmps178
    go_wp2_with fail
    go_quiet (fail)
    go_wp2
    go_ret
    exact ⟨ret_bool (by simp), _, rfl⟩
   ·have d12 : (z1 == z2) = false := beq_eq_false_iff_ne.2 h12
    have hne12 : decide (z1 ≠ z2) = true := decide_eq_true h12
    rw [hne12]
    clear hne12
    by_cases h02 : z0 = z2
    ·have d02 : decide (z0 = z2) = true := decide_eq_true h02
     have hne : decide (z0 ≠ z2) = false := decide_eq_false (fun h => h h02)
     rw [hne]
     clear hne d02 d12
     have hs : z2 = z0 := h02.symm
     clear h02
     subst hs
     go_enter Tryz.func178, Tryz.ntmps178
     go_wp2_with fail
     go_quiet (fail)
     go_wp2
     go_ret
     exact ⟨ret_bool (by simp), _, rfl⟩
    ·have d02 : (z0 == z2) = false := beq_eq_false_iff_ne.2 h02
     have hne02 : decide (z0 ≠ z2) = true := decide_eq_true h02
     rw [hne02]
     clear hne02
     cases i0
     ·go_enter Tryz.func178, Tryz.ntmps178
      go_wp2_with fail
      go_quiet (fail)
      go_wp2_with fail
      refine (K0.out _).mono ?_
      rintro e w1 ⟨rfl, rfl⟩
      go_wp2
      go_ret
      exact ⟨rfl, _, rfl⟩
     ·cases i1
      ·go_enter Tryz.func178, Tryz.ntmps178
       go_wp2_with fail
       go_quiet (fail)
       go_wp2_with fail
       refine (K0.out _).mono ?_
       rintro e w1 ⟨rfl, rfl⟩
       go_wp2_with fail
       refine (K1.out _).mono ?_
       rintro e w1 ⟨rfl, rfl⟩
       go_wp2
       go_ret
       exact ⟨rfl, _, rfl⟩
      ·cases i2
       all_goals
        go_enter Tryz.func178, Tryz.ntmps178
        go_wp2_with fail
        go_quiet (fail)
        go_wp2_with fail
        refine (K0.out _).mono ?_
        rintro e w1 ⟨rfl, rfl⟩
        go_wp2_with fail
        refine (K1.out _).mono ?_
        rintro e w1 ⟨rfl, rfl⟩
        go_wp2_with fail
        refine (K2.out _).mono ?_
        rintro e w1 ⟨rfl, rfl⟩
        go_wp2
        go_ret
        exact ⟨rfl, _, rfl⟩
 ·have h3' : decide ((len : Int) = 3) = false := decide_eq_false (by omega)
  have hb : triB n t = false := by unfold triB; rw [hl, decide_eq_false h3]; rfl
  have h4 : ¬ (len : Int) = 3 := by omega
  rw [hb]
  clear hb
  go_enter Tryz.func178, Tryz.ntmps178
  go_wp2_with fail
  go_quiet (fail)
  go_wp2
  go_ret
  exact ⟨rfl, _, rfl⟩
end Go.Proofs.YtabccmobmppdnaaGreat
namespace Go.Proofs.YtabccmobmppdnaaGreat
open Go Fk Go.RowKit
set_option linter.unusedVariables false
set_option maxRecDepth 8000
theorem fin3 {a b c : Int} (h01 : ¬ a = b) (h12 : ¬ b = c) (h02 : ¬ a = c) : (true && (true && true && true) && (decide (a ≠ b) && decide (b ≠ c) && decide (a ≠ c))) = true := by
 rw [decide_eq_true h01, decide_eq_true h12, decide_eq_true h02]; rfl
set_option maxHeartbeats 8000000 in
theorem impl_isTriangle (a : Option Addr) (len cap : Nat) (t : List Int) (n : Nat) (w : World) (h : IsIs w a len cap t) :
  Calls Tryz.prog 179 #[.slice a len cap, .int .i64 n] w fun e w' => e = .returned (.bool (triB n t)) ∧ ∃ k, w' = w.drewN k := by
 have hl := h.1
 by_cases h3 : len = 3
 ·subst h3
  obtain ⟨b, o, rfl, hcell⟩ := h.some (by decide)
  have c0 := hcell 0 (by decide)
  have c1 := hcell 1 (by decide)
  have c2 := hcell 2 (by decide)
  simp only [Nat.add_zero] at c0
  unfold triB
  rw [hl, decide_eq_true rfl]
  generalize t.getD 0 0 = z0 at *
  generalize t.getD 1 0 = z1 at *
  generalize t.getD 2 0 = z2 at *
  clear h hcell hl
  generalize hi0 : inB n z0 = i0
  generalize hi1 : inB n z1 = i1
  generalize hi2 : inB n z2 = i2
  have J0 : ∀ w, Calls Tryz.prog 103 #[.int .i64 z0, .int .i64 n] w fun e w' => e = .returned (.bool i0) ∧ w' = w := fun w => (impl_isIndex z0 n w).mono (by rintro _ _ ⟨rfl, rfl⟩; exact ⟨by rw [hi0], rfl⟩)
  have J1 : ∀ w, Calls Tryz.prog 103 #[.int .i64 z1, .int .i64 n] w fun e w' => e = .returned (.bool i1) ∧ w' = w := fun w => (impl_isIndex z1 n w).mono (by rintro _ _ ⟨rfl, rfl⟩; exact ⟨by rw [hi1], rfl⟩)
  have J2 : ∀ w, Calls Tryz.prog 103 #[.int .i64 z2, .int .i64 n] w fun e w' => e = .returned (.bool i2) ∧ w' = w := fun w => (impl_isIndex z2 n w).mono (by rintro _ _ ⟨rfl, rfl⟩; exact ⟨by rw [hi2], rfl⟩)
  have K0 := Lib.hid J0
  have K1 := Lib.hid J1
  have K2 := Lib.hid J2
  clear J0 J1 J2 hi0 hi1 hi2
  go_enter Tryz.func179, Tryz.ntmps179
  go_wp2
  go_loopw [12] (fun i w' => ∃ k : Nat, k ≤ 3 ∧ i = .int .i64 k ∧ (0 < k → i0 = true) ∧ (1 < k → i1 = true) ∧ (2 < k → i2 = true) ∧ w' = w) (fun i _ => 3 - (intOf i).toNat)
  case atStart => exact ⟨0, by decide, rfl, (fun h => absurd h (by decide)), (fun h => absurd h (by decide)), (fun h => absurd h (by decide)), rfl⟩
  case round =>
   obtain ⟨k, hk, rfl, h0, h1, h2, rfl⟩ := hrel
   have hcase : k = 0 ∨ k = 1 ∨ k = 2 ∨ k = 3 := by omega
   rcases hcase with rfl | rfl | rfl | rfl
   ·cases i0
    ·go_wp2_with (go_at_call 103; refine (K0.out _).mono ?_; rintro e w1 ⟨rfl, hw1⟩; rw [hw1]; clear hw1)
     go_ret
     exact ⟨ret_bool (by simp), 0, rfl⟩
    ·go_wp2_with (go_at_call 103; refine (K0.out _).mono ?_; rintro e w1 ⟨rfl, hw1⟩; rw [hw1]; clear hw1)
     go_roundw
     case rel => exact ⟨1, by decide, rfl, (by first | trivial | exact fun _ => rfl | exact fun _ => h0 (by decide)), (fun h => absurd h (by decide)), (fun h => absurd h (by decide)), trivial⟩
     case measure => simp [intOf]
   ·cases i1
    ·go_wp2_with (go_at_call 103; refine (K1.out _).mono ?_; rintro e w1 ⟨rfl, hw1⟩; rw [hw1]; clear hw1)
     go_ret
     exact ⟨ret_bool (by simp), 0, rfl⟩
    ·go_wp2_with (go_at_call 103; refine (K1.out _).mono ?_; rintro e w1 ⟨rfl, hw1⟩; rw [hw1]; clear hw1)
     go_roundw
     case rel => exact ⟨2, by decide, rfl, (by first | trivial | exact fun _ => rfl | exact fun _ => h0 (by decide)), (by first | trivial | exact fun _ => rfl | exact fun _ => h1 (by decide)), (fun h => absurd h (by decide)), trivial⟩
     case measure => simp [intOf]
   ·cases i2
    ·go_wp2_with (go_at_call 103; refine (K2.out _).mono ?_; rintro e w1 ⟨rfl, hw1⟩; rw [hw1]; clear hw1)
     go_ret
     exact ⟨ret_bool (by simp), 0, rfl⟩
    ·go_wp2_with (go_at_call 103; refine (K2.out _).mono ?_; rintro e w1 ⟨rfl, hw1⟩; rw [hw1]; clear hw1)
     go_roundw
     case rel => exact ⟨3, by decide, rfl, (by first | trivial | exact fun _ => rfl | exact fun _ => h0 (by decide)), (by first | trivial | exact fun _ => rfl | exact fun _ => h1 (by decide)), (by first | trivial | exact fun _ => rfl | exact fun _ => h2 (by decide)), trivial⟩
     case measure => simp [intOf]
   ·have e0 := h0 (by decide)
    have e1 := h1 (by decide)
    have e2 := h2 (by decide)
    subst e0 e1 e2
    clear h0 h1 h2
    by_cases h01 : z0 = z1
    ·have hs : z1 = z0 := h01.symm
     clear h01
     subst hs
     go_wp2_with fail
     go_quiet (fail)
     go_wp2
     go_ret
     exact ⟨ret_bool (by simp), _, rfl⟩
    ·have d01 : (z0 == z1) = false := beq_eq_false_iff_ne.2 h01
     by_cases h12 : z1 = z2
     ·have hs : z2 = z1 := h12.symm
      clear h12
      subst hs
      go_wp2_with fail
      go_quiet (fail)
      go_wp2
      go_ret
      exact ⟨ret_bool (by simp [h01]), _, rfl⟩
     ·have d12 : (z1 == z2) = false := beq_eq_false_iff_ne.2 h12
      by_cases h02 : z0 = z2
      ·have hs : z2 = z0 := h02.symm
       clear h02 d12
       subst hs
       go_wp2_with fail
       go_quiet (fail)
       go_wp2
       go_ret
       exact ⟨ret_bool (by simp [h01, h12]), _, rfl⟩
      ·have d02 : (z0 == z2) = false := beq_eq_false_iff_ne.2 h02
       have d20 : (z2 == z0) = false := beq_eq_false_iff_ne.2 (fun h => h02 h.symm)
       go_wp2_with fail
       go_quiet (fail)
       go_wp2
       go_ret
       refine ⟨ret_bool ?_, _, rfl⟩
       rw [fin3 h01 h12 h02]
       first | rfl | (simp only [bne, d01, d12, d20]; rfl) | (simp only [bne, d01, d12, d02]; rfl)
 ·have hb : triB n t = false := by unfold triB; rw [hl, decide_eq_false h3]; rfl
  have h4 : ¬ (len : Int) = 3 := by omega
  rw [hb]
  clear hb
  go_enter Tryz.func179, Tryz.ntmps179
  go_wp2
  go_ret
  exact ⟨rfl, 0, rfl⟩
end Go.Proofs.YtabccmobmppdnaaGreat
namespace Go.Proofs.YtabccmobmppdnaaGreat
open Go Fk Go.RowKit
set_option linter.unusedVariables false
set_option maxRecDepth 8000
def validB (cs : List C3) (ts : List (List Int)) : Bool := decide (cs.length ≤ 64) && decide (ts.length ≤ 128) && ts.all (triB cs.length)
theorem all_take {n : Nat} {ts : List (List Int)} (h : ∀ j, j < ts.length → triB n (ts.getD j []) = true) : ts.all (triB n) = true := by
 rw [List.all_eq_true]
 intro x hx
 obtain ⟨i, hi, rfl⟩ := List.mem_iff_getElem.1 hx
 have := h i hi
 simpa [List.getD, hi] using this
theorem all_not {n : Nat} {ts : List (List Int)} {k : Nat} (hk : k < ts.length) (h : triB n (ts.getD k []) = false) : ts.all (triB n) = false := by
 rw [Bool.eq_false_iff]
 intro hh
 have := List.all_eq_true.1 hh (ts[k]) (List.getElem_mem hk)
 have h' : triB n ts[k] = false := by simpa [List.getD, hk] using h
 rw [this] at h'; cases h'
theorem impl_ValidMesh (pa ta : Option Addr) (pl pc tl tc : Nat) (cs : List C3) (ts : List (List Int)) (w : World) (hp : IsVs w pa pl pc cs) (ht : IsTs w ta tl tc ts) :
  Calls Tryz.prog 150 #[.agg #[.slice pa pl pc, .slice ta tl tc]] w fun e w' => e = .returned (.bool (validB cs ts)) ∧ Below w.heap.size w w' := by
 have ui := Tryz.underlying40
 have hpl := hp.1
 have htl := ht.1
 unfold validB
 rw [hpl, htl]
 have hB0 : Below w.heap.size w (w.alloc (.cells #[.slice pa pl pc, .slice ta tl tc] 40)) := (Below.refl _ _).alloc (Nat.le_refl _) _
 have HB0 := Lib.hid hB0
 by_cases h1 : pl ≤ 64
 ·by_cases h2 : tl ≤ 128
  ·have g1 : ¬ (64 : Int) < pl := by omega
   have g2 : ¬ (128 : Int) < tl := by omega
   rw [decide_eq_true h1, decide_eq_true h2]
   have ht' := ht.below hB0
   have HTL := Lib.hid htl
   clear hp ht hB0 hpl htl
   have c0 : (w.alloc (.cells #[.slice pa pl pc, .slice ta tl tc] 40)).cell? ⟨w.heap.size, 0, none⟩ = some (.slice pa pl pc) := by go_simp
   go_enter Tryz.func150, Tryz.ntmps150
   go_wp2_with fail
   generalize w.alloc (.cells #[.slice pa pl pc, .slice ta tl tc] 40) = W at c0 ht' HB0 ⊢
   have hm : tl ≤ 9223372036854775807 := by omega
   go_loopw [18] (fun i w' => ∃ k : Nat, k ≤ tl ∧ i = .int .i64 k ∧ Aside (∀ j, j < k → triB pl (ts.getD j []) = true) ∧ ∃ n, w' = W.drewN n) (fun i _ => tl - (intOf i).toNat)
   case atStart => exact ⟨0, Nat.zero_le _, rfl, (fun j hj => absurd hj (by omega)), 0, rfl⟩
   case round =>
    obtain ⟨k, hk, rfl, hall, n, hw⟩ := hrel
    by_cases hlt : k < tl
    ·obtain ⟨b, o, rfl, hcell⟩ := (ht'.drew hw).some (by omega)
     obtain ⟨r1, n1, q1, c1, i1⟩ := hcell k hlt
     have c0' : wr.cell? ⟨w.heap.size, 0, none⟩ = some (.slice pa pl pc) := by rw [hw]; exact c0
     have hJ := fun w (hi : IsIs w r1 n1 q1 (ts.getD k [])) => impl_isTriangle r1 n1 q1 (ts.getD k []) pl w hi
     have HW := Lib.hid hw
     have hk0 : (0 : Int) ≤ (k : Int) := by omega
     have hk1 : (k : Int) < (tl : Int) := by omega
     cases hb : triB pl (ts.getD k [])
     ·have hres : Aside ((true && true && ts.all (triB pl)) = false) := by show (true && true && ts.all (triB pl)) = false; rw [all_not (by rw [HTL.out]; exact hlt) hb]; rfl
      rw [hb] at hJ
      have HJ := Lib.hid (hJ wr i1)
      clear hcell ht' hw i1 hJ hall hb
      go_wp2_with (go_at_call 179; refine HJ.out.mono ?_; rintro e w1 ⟨rfl, m, rfl⟩)
      go_ret
      exact ⟨ret_bool hres.out.symm, by rw [HW.out, World.drewN_drewN]; exact below_drewN HB0.out _⟩
     ·have hall' : Aside (∀ j, j < k + 1 → triB pl (ts.getD j []) = true) := by
       intro j hj
       by_cases hjk : j = k
       ·subst hjk; exact hb
       ·exact hall.out j (by omega)
      rw [hb] at hJ
      have HJ := Lib.hid (hJ wr i1)
      clear hcell ht' hw i1 hJ hall hb
      go_wp2_with (go_at_call 179; refine HJ.out.mono ?_; rintro e w1 ⟨rfl, m, rfl⟩)
      go_roundw
      case rel => exact ⟨k + 1, by omega, by go_num, hall', drewn_end HW.out⟩
      case measure => simp [intOf]; omega
    ·obtain rfl : k = tl := by omega
     have hres : Aside ((true && true && ts.all (triB pl)) = true) := by show (true && true && ts.all (triB pl)) = true; rw [all_take (by rw [HTL.out]; exact hall.out)]; rfl
     have HW := Lib.hid hw
     clear hall hw ht'
     go_wp2
     go_ret
     exact ⟨ret_bool hres.out.symm, by rw [HW.out]; exact below_drewN HB0.out _⟩
  ·have g1 : ¬ (64 : Int) < pl := by omega
   have g2 : (128 : Int) < tl := by omega
   rw [decide_eq_true h1, decide_eq_false h2]
   clear hp ht hB0 hpl htl
   go_enter Tryz.func150, Tryz.ntmps150
   go_wp2
   go_ret
   exact ⟨rfl, HB0.out⟩
 ·have g1 : (64 : Int) < pl := by omega
  rw [decide_eq_false h1]
  clear hp ht hB0 hpl htl
  go_enter Tryz.func150, Tryz.ntmps150
  go_wp2
  go_ret
  exact ⟨rfl, HB0.out⟩
set_option maxHeartbeats 1000000 in
theorem l02Is (pb : Nat) (pa ta : Option Addr) (pl pc tl tc : Nat) (cs : List C3) (ts : List (List Int)) (w : World) (c0 : w.cell? ⟨pb, 0, none⟩ = some (.slice pa pl pc)) (c1 : w.cell? ⟨pb, 1, none⟩ = some (.slice ta tl tc)) (hp : IsVs w pa pl pc cs) (ht : IsTs w ta tl tc ts) :
  Calls Tryz.prog 148 #[.pointer (some ⟨pb, 0, none⟩)] w fun e w' => e = .returned (.bool (validB cs ts)) ∧ ∃ n, w' = w.drewN n := by
 have ui := Tryz.underlying40
 have hpl := hp.1
 have htl := ht.1
 unfold validB
 rw [hpl, htl]
 by_cases h1 : pl ≤ 64
 ·have g1 : ¬ (64 : Int) < pl := by omega
  by_cases h2 : tl ≤ 128
  ·have g2 : ¬ (128 : Int) < tl := by omega
   rw [decide_eq_true h1, decide_eq_true h2]
   have HTL := Lib.hid htl
   clear hp hpl htl
   go_enter Tryz.func148, Tryz.ntmps148
   go_wp2_with fail
   have hm : tl ≤ 9223372036854775807 := by omega
   go_loopw [3] (fun i w' => ∃ k : Nat, k ≤ tl ∧ i = .int .i64 k ∧ Aside (∀ j, j < k → triB pl (ts.getD j []) = true) ∧ ∃ n, w' = w.drewN n) (fun i _ => tl - (intOf i).toNat)
   case atStart => exact ⟨0, Nat.zero_le _, rfl, (fun j hj => absurd hj (by omega)), 0, rfl⟩
   case round =>
    obtain ⟨k, hk, rfl, hall, n, hw⟩ := hrel
    have c0' : wr.cell? ⟨pb, 0, none⟩ = some (.slice pa pl pc) := by rw [hw]; exact c0
    have c1' : wr.cell? ⟨pb, 1, none⟩ = some (.slice ta tl tc) := by rw [hw]; exact c1
    by_cases hlt : k < tl
    ·obtain ⟨b, o, rfl, hcell⟩ := (ht.drew hw).some (by omega)
     obtain ⟨r1, n1, q1, cr, i1⟩ := hcell k hlt
     have hJ := fun w (hi : IsIs w r1 n1 q1 (ts.getD k [])) => l02Triangle r1 n1 q1 (ts.getD k []) pl w hi (by omega)
     have HW := Lib.hid hw
     have hk0 : (0 : Int) ≤ (k : Int) := by omega
     have hk1 : (k : Int) < (tl : Int) := by omega
     cases hb : triB pl (ts.getD k [])
     ·have hres : Aside ((true && true && ts.all (triB pl)) = false) := by show (true && true && ts.all (triB pl)) = false; rw [all_not (by rw [HTL.out]; exact hlt) hb]; rfl
      rw [hb] at hJ
      have HJ := Lib.hid (fun n => hJ (wr.drewN n) i1.drew)
      clear hcell ht hw i1 hJ hall hb
      go_wp2_with fail
      go_quiet ((go_at_call 178; exact Calls.quiet_of (HJ.out _)))
      go_wp2
      go_ret
      exact ⟨ret_bool hres.out.symm, drewn_end HW.out⟩
     ·have hall' : Aside (∀ j, j < k + 1 → triB pl (ts.getD j []) = true) := by
       intro j hj
       by_cases hjk : j = k
       ·subst hjk; exact hb
       ·exact hall.out j (by omega)
      rw [hb] at hJ
      have HJ := Lib.hid (fun n => hJ (wr.drewN n) i1.drew)
      clear hcell ht hw i1 hJ hall hb
      go_wp2_with fail
      go_quiet ((go_at_call 178; exact Calls.quiet_of (HJ.out _)))
      go_wp2
      go_roundw
      case rel => exact ⟨k + 1, by omega, by go_num, hall', drewn_end HW.out⟩
      case measure => simp [intOf]; omega
    ·obtain rfl : k = tl := by omega
     have hres : Aside ((true && true && ts.all (triB pl)) = true) := by show (true && true && ts.all (triB pl)) = true; rw [all_take (by rw [HTL.out]; exact hall.out)]; rfl
     have HW := Lib.hid hw
     clear hall hw ht
     go_wp2
     go_ret
     exact ⟨ret_bool hres.out.symm, by rw [HW.out]; exact ⟨_, rfl⟩⟩
  ·have g2 : (128 : Int) < tl := by omega
   rw [decide_eq_true h1, decide_eq_false h2]
   clear hp ht hpl htl
   go_enter Tryz.func148, Tryz.ntmps148
   go_wp2
   go_ret
   exact ⟨rfl, 0, rfl⟩
 ·have g1 : (64 : Int) < pl := by omega
  rw [decide_eq_false h1]
  clear hp ht hpl htl
  go_enter Tryz.func148, Tryz.ntmps148
  go_wp2
  go_ret
  exact ⟨rfl, 0, rfl⟩
end Go.Proofs.YtabccmobmppdnaaGreat
namespace Go.Proofs.YtabccmobmppdnaaGreat
open Go Fk Go.RowKit
set_option linter.unusedVariables false
set_option maxRecDepth 8000
def isF (c : Option Nat) (v : Value) : Prop := ∃ r, v = .float .f32 r ∧ FV .f32 r c
theorem impl_InnerOf (x y z x' y' z' : Nat) (w : World) (c d e c' d' e' : Option Nat) (h1 : FV .f32 x c) (h2 : FV .f32 y d) (h3 : FV .f32 z e) (h1' : FV .f32 x' c') (h2' : FV .f32 y' d') (h3' : FV .f32 z' e') :
  Calls Tryz.prog 172 #[vv x y z, vv x' y' z'] w fun en w' => ∃ a, en = .returned (.float .f32 a) ∧ FV .f32 a (fop .add .f32 (fop .add .f32 (fop .mul .f32 c c') (fop .mul .f32 d d')) (fop .mul .f32 e e')) ∧ Below w.heap.size w w' := by
 have u := Tryz.underlying27
 have uv := Tryz.underlying42
 go_enter Tryz.func172, Tryz.ntmps172
 go_wp2_with fail
 have k0 : (((w.alloc (.cells #[.float .f32 x, .float .f32 y, .float .f32 z] 42)).alloc (.cells #[.float .f32 x', .float .f32 y', .float .f32 z'] 42)).drewN 1).cell? ⟨w.heap.size, 0, none⟩ = some (.float .f32 x) := by simp
 have k1 : (((w.alloc (.cells #[.float .f32 x, .float .f32 y, .float .f32 z] 42)).alloc (.cells #[.float .f32 x', .float .f32 y', .float .f32 z'] 42)).drewN 1).cell? ⟨w.heap.size, 1, none⟩ = some (.float .f32 y) := by simp
 have k2 : (((w.alloc (.cells #[.float .f32 x, .float .f32 y, .float .f32 z] 42)).alloc (.cells #[.float .f32 x', .float .f32 y', .float .f32 z'] 42)).drewN 1).cell? ⟨w.heap.size, 2, none⟩ = some (.float .f32 z) := by simp
 have k3 : (((w.alloc (.cells #[.float .f32 x, .float .f32 y, .float .f32 z] 42)).alloc (.cells #[.float .f32 x', .float .f32 y', .float .f32 z'] 42)).drewN 1).cell? ⟨w.heap.size + 1, 0, none⟩ = some (.float .f32 x') := by simp
 have k4 : (((w.alloc (.cells #[.float .f32 x, .float .f32 y, .float .f32 z] 42)).alloc (.cells #[.float .f32 x', .float .f32 y', .float .f32 z'] 42)).drewN 1).cell? ⟨w.heap.size + 1, 1, none⟩ = some (.float .f32 y') := by simp
 have k5 : (((w.alloc (.cells #[.float .f32 x, .float .f32 y, .float .f32 z] 42)).alloc (.cells #[.float .f32 x', .float .f32 y', .float .f32 z'] 42)).drewN 1).cell? ⟨w.heap.size + 1, 2, none⟩ = some (.float .f32 z') := by simp
 refine Reg.wp_region_mix (C := fun w' => (w'.cell? ⟨w.heap.size, 0, none⟩ = some (.float .f32 x) ∧ w'.cell? ⟨w.heap.size, 1, none⟩ = some (.float .f32 y) ∧ w'.cell? ⟨w.heap.size, 2, none⟩ = some (.float .f32 z) ∧ w'.cell? ⟨w.heap.size + 1, 0, none⟩ = some (.float .f32 x') ∧ w'.cell? ⟨w.heap.size + 1, 1, none⟩ = some (.float .f32 y') ∧ w'.cell? ⟨w.heap.size + 1, 2, none⟩ = some (.float .f32 z')) ∧ Below w.heap.size w w') (G := fun _ _ => True) (R := fun i v _ => match i with | 0 => v = .pointer (some ⟨w.heap.size, 0, none⟩) | 1 => v = .float .f32 x | 2 => v = .pointer (some ⟨w.heap.size + 1, 0, none⟩) | 3 => v = .float .f32 x' | 4 => isF (fop .mul .f32 c c') v | 5 => v = .pointer (some ⟨w.heap.size, 1, none⟩) | 6 => v = .float .f32 y | 7 => v = .pointer (some ⟨w.heap.size + 1, 1, none⟩) | 8 => v = .float .f32 y' | 9 => isF (fop .mul .f32 d d') v | 10 => isF (fop .add .f32 (fop .mul .f32 c c') (fop .mul .f32 d d')) v | 11 => v = .pointer (some ⟨w.heap.size, 2, none⟩) | 12 => v = .float .f32 z | 13 => v = .pointer (some ⟨w.heap.size + 1, 2, none⟩) | 14 => v = .float .f32 z' | 15 => isF (fop .mul .f32 e e') v | 16 => isF (fop .add .f32 (fop .add .f32 (fop .mul .f32 c c') (fop .mul .f32 d d')) (fop .mul .f32 e e')) v | 17 => isF (fop .add .f32 (fop .add .f32 (fop .mul .f32 c c') (fop .mul .f32 d d')) (fop .mul .f32 e e')) v | _ => True) (T := fun _ a w' => True) [false, false, false, false, true, true, true, true, true, true, true, true, true, true, true, true, true, true, true, true, true, true]
  (by kernel_rfl) (by kernel_rfl) (by kernel_rfl) (fun _ _ _ _ _ _ h => h) ⟨⟨k0, k1, k2, k3, k4, k5⟩, below_drewN (((Below.refl _ _).alloc (Nat.le_refl _) _).alloc (by simp) _) 1⟩ ?_ ?_
 ·refine ⟨Reg.Obl.mk ?_, Reg.Obl.mk ?_, Reg.Obl.mk ?_, Reg.Obl.mk ?_, Reg.Obl.mk ?_, Reg.Obl.mk ?_, Reg.Obl.mk ?_, Reg.Obl.mk ?_, Reg.Obl.mk ?_, Reg.Obl.mk ?_, Reg.Obl.mk ?_, Reg.Obl.mk ?_, Reg.Obl.mk ?_, Reg.Obl.mk ?_, Reg.Obl.mk ?_, Reg.Obl.mk ?_, Reg.Obl.mk ?_, Reg.Obl.mk ?_, trivial⟩
  ·rintro a w1 ⟨hcs, hB⟩ hx hd K hK
   have hcs' := hcs
   obtain ⟨c0, c1, c2, c3, c4, c5⟩ := hcs'
   have t2 : a.tmps[2]?.getD undef = .pointer (some ⟨w.heap.size, 0, none⟩) := Reg.slot_val (hx 2 (by kernel_rfl))
   go_simp
   exact hK _ _ (fun _ => rfl) (fun h => by cases h) ⟨hcs, hB⟩ trivial
  ·rintro a w1 ⟨hcs, hB⟩ hx hd K hK
   have hcs' := hcs
   obtain ⟨c0, c1, c2, c3, c4, c5⟩ := hcs'
   have t5 : a.tmps[5]?.getD undef = .pointer (some ⟨w.heap.size, 0, none⟩) := Reg.slot_val (hd 0 (by kernel_rfl) 5 rfl)
   go_simp
   exact hK _ _ (fun _ => rfl) (fun h => by cases h) ⟨hcs, hB⟩ trivial
  ·rintro a w1 ⟨hcs, hB⟩ hx hd K hK
   have hcs' := hcs
   obtain ⟨c0, c1, c2, c3, c4, c5⟩ := hcs'
   have t3 : a.tmps[3]?.getD undef = .pointer (some ⟨w.heap.size + 1, 0, none⟩) := Reg.slot_val (hx 3 (by kernel_rfl))
   go_simp
   exact hK _ _ (fun _ => rfl) (fun h => by cases h) ⟨hcs, hB⟩ trivial
  ·rintro a w1 ⟨hcs, hB⟩ hx hd K hK
   have hcs' := hcs
   obtain ⟨c0, c1, c2, c3, c4, c5⟩ := hcs'
   have t7 : a.tmps[7]?.getD undef = .pointer (some ⟨w.heap.size + 1, 0, none⟩) := Reg.slot_val (hd 2 (by kernel_rfl) 7 rfl)
   go_simp
   exact hK _ _ (fun _ => rfl) (fun h => by cases h) ⟨hcs, hB⟩ trivial
  ·rintro a w1 ⟨hcs, hB⟩ hx hd K hK
   have hcs' := hcs
   obtain ⟨c0, c1, c2, c3, c4, c5⟩ := hcs'
   have t6 : a.tmps[6]?.getD undef = .float .f32 x := Reg.slot_val (hd 1 (by kernel_rfl) 6 rfl)
   have t8 : a.tmps[8]?.getD undef = .float .f32 x' := Reg.slot_val (hd 3 (by kernel_rfl) 8 rfl)
   go_simp
   refine (impl_product32 _ _ _ _ _ h1 h1').mono ?_
   rintro en w2 ⟨r, rfl, hr, n1, rfl⟩
   exact hK _ _ (fun _ => ⟨r, rfl, hr⟩) (fun h => by cases h) ⟨hcs, below_drewN hB _⟩ trivial
  ·rintro a w1 ⟨hcs, hB⟩ hx hd K hK
   have hcs' := hcs
   obtain ⟨c0, c1, c2, c3, c4, c5⟩ := hcs'
   have t2 : a.tmps[2]?.getD undef = .pointer (some ⟨w.heap.size, 0, none⟩) := Reg.slot_val (hx 2 (by kernel_rfl))
   go_simp
   exact hK _ _ (fun _ => rfl) (fun h => by cases h) ⟨hcs, hB⟩ trivial
  ·rintro a w1 ⟨hcs, hB⟩ hx hd K hK
   have hcs' := hcs
   obtain ⟨c0, c1, c2, c3, c4, c5⟩ := hcs'
   have t10 : a.tmps[10]?.getD undef = .pointer (some ⟨w.heap.size, 1, none⟩) := Reg.slot_val (hd 5 (by kernel_rfl) 10 rfl)
   go_simp
   exact hK _ _ (fun _ => rfl) (fun h => by cases h) ⟨hcs, hB⟩ trivial
  ·rintro a w1 ⟨hcs, hB⟩ hx hd K hK
   have hcs' := hcs
   obtain ⟨c0, c1, c2, c3, c4, c5⟩ := hcs'
   have t3 : a.tmps[3]?.getD undef = .pointer (some ⟨w.heap.size + 1, 0, none⟩) := Reg.slot_val (hx 3 (by kernel_rfl))
   go_simp
   exact hK _ _ (fun _ => rfl) (fun h => by cases h) ⟨hcs, hB⟩ trivial
  ·rintro a w1 ⟨hcs, hB⟩ hx hd K hK
   have hcs' := hcs
   obtain ⟨c0, c1, c2, c3, c4, c5⟩ := hcs'
   have t12 : a.tmps[12]?.getD undef = .pointer (some ⟨w.heap.size + 1, 1, none⟩) := Reg.slot_val (hd 7 (by kernel_rfl) 12 rfl)
   go_simp
   exact hK _ _ (fun _ => rfl) (fun h => by cases h) ⟨hcs, hB⟩ trivial
  ·rintro a w1 ⟨hcs, hB⟩ hx hd K hK
   have hcs' := hcs
   obtain ⟨c0, c1, c2, c3, c4, c5⟩ := hcs'
   have t11 : a.tmps[11]?.getD undef = .float .f32 y := Reg.slot_val (hd 6 (by kernel_rfl) 11 rfl)
   have t13 : a.tmps[13]?.getD undef = .float .f32 y' := Reg.slot_val (hd 8 (by kernel_rfl) 13 rfl)
   go_simp
   refine (impl_product32 _ _ _ _ _ h2 h2').mono ?_
   rintro en w2 ⟨r, rfl, hr, n1, rfl⟩
   exact hK _ _ (fun _ => ⟨r, rfl, hr⟩) (fun h => by cases h) ⟨hcs, below_drewN hB _⟩ trivial
  ·rintro a w1 ⟨hcs, hB⟩ hx hd K hK
   have hcs' := hcs
   obtain ⟨c0, c1, c2, c3, c4, c5⟩ := hcs'
   obtain ⟨r9, g9, f9⟩ := hd 4 (by kernel_rfl) 9 rfl
   have t9 := Reg.slot_val g9
   clear g9
   obtain ⟨r14, g14, f14⟩ := hd 9 (by kernel_rfl) 14 rfl
   have t14 := Reg.slot_val g14
   clear g14
   go_simp
   exact hK _ _ (fun _ => ⟨_, rfl, FV_fR f9 f14⟩) (fun h => by cases h) ⟨hcs, below_drewN hB _⟩ trivial
  ·rintro a w1 ⟨hcs, hB⟩ hx hd K hK
   have hcs' := hcs
   obtain ⟨c0, c1, c2, c3, c4, c5⟩ := hcs'
   have t2 : a.tmps[2]?.getD undef = .pointer (some ⟨w.heap.size, 0, none⟩) := Reg.slot_val (hx 2 (by kernel_rfl))
   go_simp
   exact hK _ _ (fun _ => rfl) (fun h => by cases h) ⟨hcs, hB⟩ trivial
  ·rintro a w1 ⟨hcs, hB⟩ hx hd K hK
   have hcs' := hcs
   obtain ⟨c0, c1, c2, c3, c4, c5⟩ := hcs'
   have t16 : a.tmps[16]?.getD undef = .pointer (some ⟨w.heap.size, 2, none⟩) := Reg.slot_val (hd 11 (by kernel_rfl) 16 rfl)
   go_simp
   exact hK _ _ (fun _ => rfl) (fun h => by cases h) ⟨hcs, hB⟩ trivial
  ·rintro a w1 ⟨hcs, hB⟩ hx hd K hK
   have hcs' := hcs
   obtain ⟨c0, c1, c2, c3, c4, c5⟩ := hcs'
   have t3 : a.tmps[3]?.getD undef = .pointer (some ⟨w.heap.size + 1, 0, none⟩) := Reg.slot_val (hx 3 (by kernel_rfl))
   go_simp
   exact hK _ _ (fun _ => rfl) (fun h => by cases h) ⟨hcs, hB⟩ trivial
  ·rintro a w1 ⟨hcs, hB⟩ hx hd K hK
   have hcs' := hcs
   obtain ⟨c0, c1, c2, c3, c4, c5⟩ := hcs'
   have t18 : a.tmps[18]?.getD undef = .pointer (some ⟨w.heap.size + 1, 2, none⟩) := Reg.slot_val (hd 13 (by kernel_rfl) 18 rfl)
   go_simp
   exact hK _ _ (fun _ => rfl) (fun h => by cases h) ⟨hcs, hB⟩ trivial
  ·rintro a w1 ⟨hcs, hB⟩ hx hd K hK
   have hcs' := hcs
   obtain ⟨c0, c1, c2, c3, c4, c5⟩ := hcs'
   have t17 : a.tmps[17]?.getD undef = .float .f32 z := Reg.slot_val (hd 12 (by kernel_rfl) 17 rfl)
   have t19 : a.tmps[19]?.getD undef = .float .f32 z' := Reg.slot_val (hd 14 (by kernel_rfl) 19 rfl)
   go_simp
   refine (impl_product32 _ _ _ _ _ h3 h3').mono ?_
   rintro en w2 ⟨r, rfl, hr, n1, rfl⟩
   exact hK _ _ (fun _ => ⟨r, rfl, hr⟩) (fun h => by cases h) ⟨hcs, below_drewN hB _⟩ trivial
  ·rintro a w1 ⟨hcs, hB⟩ hx hd K hK
   have hcs' := hcs
   obtain ⟨c0, c1, c2, c3, c4, c5⟩ := hcs'
   obtain ⟨r15, g15, f15⟩ := hd 10 (by kernel_rfl) 15 rfl
   have t15 := Reg.slot_val g15
   clear g15
   obtain ⟨r20, g20, f20⟩ := hd 15 (by kernel_rfl) 20 rfl
   have t20 := Reg.slot_val g20
   clear g20
   go_simp
   exact hK _ _ (fun _ => ⟨_, rfl, FV_fR f15 f20⟩) (fun h => by cases h) ⟨hcs, below_drewN hB _⟩ trivial
  ·rintro a w1 ⟨hcs, hB⟩ hx hd K hK
   have hcs' := hcs
   obtain ⟨c0, c1, c2, c3, c4, c5⟩ := hcs'
   obtain ⟨r21, g21, f21⟩ := hd 16 (by kernel_rfl) 21 rfl
   have t21 := Reg.slot_val g21
   clear g21
   go_simp
   exact hK _ _ (fun _ => ⟨_, rfl, f21⟩) (fun h => by cases h) ⟨hcs, hB⟩ trivial
 ·rintro f w1 ⟨hcs, hB⟩ hd hT
  obtain ⟨r, g, fr⟩ := hd 17 4 rfl
  simp only [Reg.mixL, g]
  go_wp2
  go_ret
  exact ⟨r, rfl, fr, hB⟩
set_option maxHeartbeats 1000000 in
theorem impl_CrossOf (x y z x' y' z' : Nat) (w : World) (c d e c' d' e' : Option Nat) (h1 : FV .f32 x c) (h2 : FV .f32 y d) (h3 : FV .f32 z e) (h1' : FV .f32 x' c') (h2' : FV .f32 y' d') (h3' : FV .f32 z' e') :
  Calls Tryz.prog 258 #[vv x y z, vv x' y' z'] w fun en w' => ∃ a b g, en = .returned (vv a b g) ∧ FV .f32 a (fop .sub .f32 (fop .mul .f32 d e') (fop .mul .f32 e d')) ∧ FV .f32 b (fop .sub .f32 (fop .mul .f32 e c') (fop .mul .f32 c e')) ∧ FV .f32 g (fop .sub .f32 (fop .mul .f32 c d') (fop .mul .f32 d c')) ∧ Below w.heap.size w w' := by
 have u := Tryz.underlying27
 have uv := Tryz.underlying42
 go_enter Tryz.func258, Tryz.ntmps258
 go_wp2_with fail
 have k0 : ((((w.alloc (.cells #[.float .f32 x, .float .f32 y, .float .f32 z] 42)).alloc (.cells #[.float .f32 x', .float .f32 y', .float .f32 z'] 42)).alloc (.cells #[.float .f32 0, .float .f32 0, .float .f32 0] 42)).drewN 1).cell? ⟨w.heap.size, 0, none⟩ = some (.float .f32 x) := by go_simp
 have k1 : ((((w.alloc (.cells #[.float .f32 x, .float .f32 y, .float .f32 z] 42)).alloc (.cells #[.float .f32 x', .float .f32 y', .float .f32 z'] 42)).alloc (.cells #[.float .f32 0, .float .f32 0, .float .f32 0] 42)).drewN 1).cell? ⟨w.heap.size, 1, none⟩ = some (.float .f32 y) := by go_simp
 have k2 : ((((w.alloc (.cells #[.float .f32 x, .float .f32 y, .float .f32 z] 42)).alloc (.cells #[.float .f32 x', .float .f32 y', .float .f32 z'] 42)).alloc (.cells #[.float .f32 0, .float .f32 0, .float .f32 0] 42)).drewN 1).cell? ⟨w.heap.size, 2, none⟩ = some (.float .f32 z) := by go_simp
 have k3 : ((((w.alloc (.cells #[.float .f32 x, .float .f32 y, .float .f32 z] 42)).alloc (.cells #[.float .f32 x', .float .f32 y', .float .f32 z'] 42)).alloc (.cells #[.float .f32 0, .float .f32 0, .float .f32 0] 42)).drewN 1).cell? ⟨w.heap.size + 1, 0, none⟩ = some (.float .f32 x') := by go_simp
 have k4 : ((((w.alloc (.cells #[.float .f32 x, .float .f32 y, .float .f32 z] 42)).alloc (.cells #[.float .f32 x', .float .f32 y', .float .f32 z'] 42)).alloc (.cells #[.float .f32 0, .float .f32 0, .float .f32 0] 42)).drewN 1).cell? ⟨w.heap.size + 1, 1, none⟩ = some (.float .f32 y') := by go_simp
 have k5 : ((((w.alloc (.cells #[.float .f32 x, .float .f32 y, .float .f32 z] 42)).alloc (.cells #[.float .f32 x', .float .f32 y', .float .f32 z'] 42)).alloc (.cells #[.float .f32 0, .float .f32 0, .float .f32 0] 42)).drewN 1).cell? ⟨w.heap.size + 1, 2, none⟩ = some (.float .f32 z') := by go_simp
 have k6 : ((((w.alloc (.cells #[.float .f32 x, .float .f32 y, .float .f32 z] 42)).alloc (.cells #[.float .f32 x', .float .f32 y', .float .f32 z'] 42)).alloc (.cells #[.float .f32 0, .float .f32 0, .float .f32 0] 42)).drewN 1).cell? ⟨w.heap.size + 1 + 1, 0, none⟩ = some (.float .f32 0) := by go_simp
 have k7 : ((((w.alloc (.cells #[.float .f32 x, .float .f32 y, .float .f32 z] 42)).alloc (.cells #[.float .f32 x', .float .f32 y', .float .f32 z'] 42)).alloc (.cells #[.float .f32 0, .float .f32 0, .float .f32 0] 42)).drewN 1).cell? ⟨w.heap.size + 1 + 1, 1, none⟩ = some (.float .f32 0) := by go_simp
 have k8 : ((((w.alloc (.cells #[.float .f32 x, .float .f32 y, .float .f32 z] 42)).alloc (.cells #[.float .f32 x', .float .f32 y', .float .f32 z'] 42)).alloc (.cells #[.float .f32 0, .float .f32 0, .float .f32 0] 42)).drewN 1).cell? ⟨w.heap.size + 1 + 1, 2, none⟩ = some (.float .f32 0) := by go_simp
 have k9 : ((((w.alloc (.cells #[.float .f32 x, .float .f32 y, .float .f32 z] 42)).alloc (.cells #[.float .f32 x', .float .f32 y', .float .f32 z'] 42)).alloc (.cells #[.float .f32 0, .float .f32 0, .float .f32 0] 42)).drewN 1).frozen? ⟨w.heap.size + 1 + 1, 0, none⟩ = false := by go_simp
 have k10 : ((((w.alloc (.cells #[.float .f32 x, .float .f32 y, .float .f32 z] 42)).alloc (.cells #[.float .f32 x', .float .f32 y', .float .f32 z'] 42)).alloc (.cells #[.float .f32 0, .float .f32 0, .float .f32 0] 42)).drewN 1).frozen? ⟨w.heap.size + 1 + 1, 1, none⟩ = false := by go_simp
 have k11 : ((((w.alloc (.cells #[.float .f32 x, .float .f32 y, .float .f32 z] 42)).alloc (.cells #[.float .f32 x', .float .f32 y', .float .f32 z'] 42)).alloc (.cells #[.float .f32 0, .float .f32 0, .float .f32 0] 42)).drewN 1).frozen? ⟨w.heap.size + 1 + 1, 2, none⟩ = false := by go_simp
 refine Reg.wp_region_mix (C := fun w' => (w'.cell? ⟨w.heap.size, 0, none⟩ = some (.float .f32 x) ∧ w'.cell? ⟨w.heap.size, 1, none⟩ = some (.float .f32 y) ∧ w'.cell? ⟨w.heap.size, 2, none⟩ = some (.float .f32 z) ∧ w'.cell? ⟨w.heap.size + 1, 0, none⟩ = some (.float .f32 x') ∧ w'.cell? ⟨w.heap.size + 1, 1, none⟩ = some (.float .f32 y') ∧ w'.cell? ⟨w.heap.size + 1, 2, none⟩ = some (.float .f32 z')) ∧ (∃ u0 u1 u2, w'.cell? ⟨w.heap.size + 1 + 1, 0, none⟩ = some u0 ∧ w'.cell? ⟨w.heap.size + 1 + 1, 1, none⟩ = some u1 ∧ w'.cell? ⟨w.heap.size + 1 + 1, 2, none⟩ = some u2) ∧ (w'.frozen? ⟨w.heap.size + 1 + 1, 0, none⟩ = false ∧ w'.frozen? ⟨w.heap.size + 1 + 1, 1, none⟩ = false ∧ w'.frozen? ⟨w.heap.size + 1 + 1, 2, none⟩ = false) ∧ Below w.heap.size w w') (G := fun _ _ => True) (R := fun i v _ => match i with | 0 => v = .pointer (some ⟨w.heap.size, 1, none⟩) | 1 => v = .float .f32 y | 2 => v = .pointer (some ⟨w.heap.size + 1, 2, none⟩) | 3 => v = .float .f32 z' | 4 => isF (fop .mul .f32 d e') v | 5 => v = .pointer (some ⟨w.heap.size, 2, none⟩) | 6 => v = .float .f32 z | 7 => v = .pointer (some ⟨w.heap.size + 1, 1, none⟩) | 8 => v = .float .f32 y' | 9 => isF (fop .mul .f32 e d') v | 10 => isF (fop .sub .f32 (fop .mul .f32 d e') (fop .mul .f32 e d')) v | 11 => v = .pointer (some ⟨w.heap.size, 2, none⟩) | 12 => v = .float .f32 z | 13 => v = .pointer (some ⟨w.heap.size + 1, 0, none⟩) | 14 => v = .float .f32 x' | 15 => isF (fop .mul .f32 e c') v | 16 => v = .pointer (some ⟨w.heap.size, 0, none⟩) | 17 => v = .float .f32 x | 18 => v = .pointer (some ⟨w.heap.size + 1, 2, none⟩) | 19 => v = .float .f32 z' | 20 => isF (fop .mul .f32 c e') v | 21 => isF (fop .sub .f32 (fop .mul .f32 e c') (fop .mul .f32 c e')) v | 22 => v = .pointer (some ⟨w.heap.size, 0, none⟩) | 23 => v = .float .f32 x | 24 => v = .pointer (some ⟨w.heap.size + 1, 1, none⟩) | 25 => v = .float .f32 y' | 26 => isF (fop .mul .f32 c d') v | 27 => v = .pointer (some ⟨w.heap.size, 1, none⟩) | 28 => v = .float .f32 y | 29 => v = .pointer (some ⟨w.heap.size + 1, 0, none⟩) | 30 => v = .float .f32 x' | 31 => isF (fop .mul .f32 d c') v | 32 => isF (fop .sub .f32 (fop .mul .f32 c d') (fop .mul .f32 d c')) v | 33 => ∃ a b g, v = vv a b g ∧ FV .f32 a (fop .sub .f32 (fop .mul .f32 d e') (fop .mul .f32 e d')) ∧ FV .f32 b (fop .sub .f32 (fop .mul .f32 e c') (fop .mul .f32 c e')) ∧ FV .f32 g (fop .sub .f32 (fop .mul .f32 c d') (fop .mul .f32 d c')) | 34 => True | _ => True) (T := fun _ a w' => ∃ a b g, w'.cell? ⟨w.heap.size + 1 + 1, 0, none⟩ = some (.float .f32 a) ∧ w'.cell? ⟨w.heap.size + 1 + 1, 1, none⟩ = some (.float .f32 b) ∧ w'.cell? ⟨w.heap.size + 1 + 1, 2, none⟩ = some (.float .f32 g) ∧ FV .f32 a (fop .sub .f32 (fop .mul .f32 d e') (fop .mul .f32 e d')) ∧ FV .f32 b (fop .sub .f32 (fop .mul .f32 e c') (fop .mul .f32 c e')) ∧ FV .f32 g (fop .sub .f32 (fop .mul .f32 c d') (fop .mul .f32 d c'))) [false, false, false, false, false, true, true, true, true, true, true, true, true, true, true, true, true, true, true, true, true, true, true, true, true, true, true, true, true, true, true, true, true, true, true, true, true, true, true]
  (by kernel_rfl) (by kernel_rfl) (by kernel_rfl) (fun _ _ _ _ _ _ h => h) ⟨⟨k0, k1, k2, k3, k4, k5⟩, ⟨_, _, _, k6, k7, k8⟩, ⟨k9, k10, k11⟩, below_drewN ((((Below.refl _ _).alloc (Nat.le_refl _) _).alloc (by simp) _).alloc (by simp; omega) _) 1⟩ ?_ ?_
 ·refine ⟨Reg.Obl.mk ?_, Reg.Obl.mk ?_, Reg.Obl.mk ?_, Reg.Obl.mk ?_, Reg.Obl.mk ?_, Reg.Obl.mk ?_, Reg.Obl.mk ?_, Reg.Obl.mk ?_, Reg.Obl.mk ?_, Reg.Obl.mk ?_, Reg.Obl.mk ?_, Reg.Obl.mk ?_, Reg.Obl.mk ?_, Reg.Obl.mk ?_, Reg.Obl.mk ?_, Reg.Obl.mk ?_, Reg.Obl.mk ?_, Reg.Obl.mk ?_, Reg.Obl.mk ?_, Reg.Obl.mk ?_, Reg.Obl.mk ?_, Reg.Obl.mk ?_, Reg.Obl.mk ?_, Reg.Obl.mk ?_, Reg.Obl.mk ?_, Reg.Obl.mk ?_, Reg.Obl.mk ?_, Reg.Obl.mk ?_, Reg.Obl.mk ?_, Reg.Obl.mk ?_, Reg.Obl.mk ?_, Reg.Obl.mk ?_, Reg.Obl.mk ?_, Reg.Obl.mk ?_, Reg.Obl.mk ?_, trivial⟩
  ·rintro a w1 ⟨hcs, hrb, hfz, hB⟩ hx hd K hK
   have hcs' := hcs
   obtain ⟨c0, c1, c2, c3, c4, c5⟩ := hcs'
   have t2 : a.tmps[2]?.getD undef = .pointer (some ⟨w.heap.size, 0, none⟩) := Reg.slot_val (hx 2 (by kernel_rfl))
   go_simp
   exact hK _ _ (fun _ => rfl) (fun h => by cases h) ⟨hcs, hrb, hfz, hB⟩ trivial
  ·rintro a w1 ⟨hcs, hrb, hfz, hB⟩ hx hd K hK
   have hcs' := hcs
   obtain ⟨c0, c1, c2, c3, c4, c5⟩ := hcs'
   have t5 : a.tmps[5]?.getD undef = .pointer (some ⟨w.heap.size, 1, none⟩) := Reg.slot_val (hd 0 (by kernel_rfl) 5 rfl)
   go_simp
   exact hK _ _ (fun _ => rfl) (fun h => by cases h) ⟨hcs, hrb, hfz, hB⟩ trivial
  ·rintro a w1 ⟨hcs, hrb, hfz, hB⟩ hx hd K hK
   have hcs' := hcs
   obtain ⟨c0, c1, c2, c3, c4, c5⟩ := hcs'
   have t3 : a.tmps[3]?.getD undef = .pointer (some ⟨w.heap.size + 1, 0, none⟩) := Reg.slot_val (hx 3 (by kernel_rfl))
   go_simp
   exact hK _ _ (fun _ => rfl) (fun h => by cases h) ⟨hcs, hrb, hfz, hB⟩ trivial
  ·rintro a w1 ⟨hcs, hrb, hfz, hB⟩ hx hd K hK
   have hcs' := hcs
   obtain ⟨c0, c1, c2, c3, c4, c5⟩ := hcs'
   have t7 : a.tmps[7]?.getD undef = .pointer (some ⟨w.heap.size + 1, 2, none⟩) := Reg.slot_val (hd 2 (by kernel_rfl) 7 rfl)
   go_simp
   exact hK _ _ (fun _ => rfl) (fun h => by cases h) ⟨hcs, hrb, hfz, hB⟩ trivial
  ·rintro a w1 ⟨hcs, hrb, hfz, hB⟩ hx hd K hK
   have hcs' := hcs
   obtain ⟨c0, c1, c2, c3, c4, c5⟩ := hcs'
   have t6 : a.tmps[6]?.getD undef = .float .f32 y := Reg.slot_val (hd 1 (by kernel_rfl) 6 rfl)
   have t8 : a.tmps[8]?.getD undef = .float .f32 z' := Reg.slot_val (hd 3 (by kernel_rfl) 8 rfl)
   go_simp
   refine (impl_product32 _ _ _ _ _ h2 h3').mono ?_
   rintro en w2 ⟨r, rfl, hr, n1, rfl⟩
   exact hK _ _ (fun _ => ⟨r, rfl, hr⟩) (fun h => by cases h) ⟨hcs, hrb, hfz, below_drewN hB _⟩ trivial
  ·rintro a w1 ⟨hcs, hrb, hfz, hB⟩ hx hd K hK
   have hcs' := hcs
   obtain ⟨c0, c1, c2, c3, c4, c5⟩ := hcs'
   have t2 : a.tmps[2]?.getD undef = .pointer (some ⟨w.heap.size, 0, none⟩) := Reg.slot_val (hx 2 (by kernel_rfl))
   go_simp
   exact hK _ _ (fun _ => rfl) (fun h => by cases h) ⟨hcs, hrb, hfz, hB⟩ trivial
  ·rintro a w1 ⟨hcs, hrb, hfz, hB⟩ hx hd K hK
   have hcs' := hcs
   obtain ⟨c0, c1, c2, c3, c4, c5⟩ := hcs'
   have t10 : a.tmps[10]?.getD undef = .pointer (some ⟨w.heap.size, 2, none⟩) := Reg.slot_val (hd 5 (by kernel_rfl) 10 rfl)
   go_simp
   exact hK _ _ (fun _ => rfl) (fun h => by cases h) ⟨hcs, hrb, hfz, hB⟩ trivial
  ·rintro a w1 ⟨hcs, hrb, hfz, hB⟩ hx hd K hK
   have hcs' := hcs
   obtain ⟨c0, c1, c2, c3, c4, c5⟩ := hcs'
   have t3 : a.tmps[3]?.getD undef = .pointer (some ⟨w.heap.size + 1, 0, none⟩) := Reg.slot_val (hx 3 (by kernel_rfl))
   go_simp
   exact hK _ _ (fun _ => rfl) (fun h => by cases h) ⟨hcs, hrb, hfz, hB⟩ trivial
  ·rintro a w1 ⟨hcs, hrb, hfz, hB⟩ hx hd K hK
   have hcs' := hcs
   obtain ⟨c0, c1, c2, c3, c4, c5⟩ := hcs'
   have t12 : a.tmps[12]?.getD undef = .pointer (some ⟨w.heap.size + 1, 1, none⟩) := Reg.slot_val (hd 7 (by kernel_rfl) 12 rfl)
   go_simp
   exact hK _ _ (fun _ => rfl) (fun h => by cases h) ⟨hcs, hrb, hfz, hB⟩ trivial
  ·rintro a w1 ⟨hcs, hrb, hfz, hB⟩ hx hd K hK
   have hcs' := hcs
   obtain ⟨c0, c1, c2, c3, c4, c5⟩ := hcs'
   have t11 : a.tmps[11]?.getD undef = .float .f32 z := Reg.slot_val (hd 6 (by kernel_rfl) 11 rfl)
   have t13 : a.tmps[13]?.getD undef = .float .f32 y' := Reg.slot_val (hd 8 (by kernel_rfl) 13 rfl)
   go_simp
   refine (impl_product32 _ _ _ _ _ h3 h2').mono ?_
   rintro en w2 ⟨r, rfl, hr, n1, rfl⟩
   exact hK _ _ (fun _ => ⟨r, rfl, hr⟩) (fun h => by cases h) ⟨hcs, hrb, hfz, below_drewN hB _⟩ trivial
  ·rintro a w1 ⟨hcs, hrb, hfz, hB⟩ hx hd K hK
   have hcs' := hcs
   obtain ⟨c0, c1, c2, c3, c4, c5⟩ := hcs'
   obtain ⟨r9, g9, f9⟩ := hd 4 (by kernel_rfl) 9 rfl
   have t9 := Reg.slot_val g9
   clear g9
   obtain ⟨r14, g14, f14⟩ := hd 9 (by kernel_rfl) 14 rfl
   have t14 := Reg.slot_val g14
   clear g14
   go_simp
   exact hK _ _ (fun _ => ⟨_, rfl, FV_fR f9 f14⟩) (fun h => by cases h) ⟨hcs, hrb, hfz, below_drewN hB _⟩ trivial
  ·rintro a w1 ⟨hcs, hrb, hfz, hB⟩ hx hd K hK
   have hcs' := hcs
   obtain ⟨c0, c1, c2, c3, c4, c5⟩ := hcs'
   have t2 : a.tmps[2]?.getD undef = .pointer (some ⟨w.heap.size, 0, none⟩) := Reg.slot_val (hx 2 (by kernel_rfl))
   go_simp
   exact hK _ _ (fun _ => rfl) (fun h => by cases h) ⟨hcs, hrb, hfz, hB⟩ trivial
  ·rintro a w1 ⟨hcs, hrb, hfz, hB⟩ hx hd K hK
   have hcs' := hcs
   obtain ⟨c0, c1, c2, c3, c4, c5⟩ := hcs'
   have t16 : a.tmps[16]?.getD undef = .pointer (some ⟨w.heap.size, 2, none⟩) := Reg.slot_val (hd 11 (by kernel_rfl) 16 rfl)
   go_simp
   exact hK _ _ (fun _ => rfl) (fun h => by cases h) ⟨hcs, hrb, hfz, hB⟩ trivial
  ·rintro a w1 ⟨hcs, hrb, hfz, hB⟩ hx hd K hK
   have hcs' := hcs
   obtain ⟨c0, c1, c2, c3, c4, c5⟩ := hcs'
   have t3 : a.tmps[3]?.getD undef = .pointer (some ⟨w.heap.size + 1, 0, none⟩) := Reg.slot_val (hx 3 (by kernel_rfl))
   go_simp
   exact hK _ _ (fun _ => rfl) (fun h => by cases h) ⟨hcs, hrb, hfz, hB⟩ trivial
  ·rintro a w1 ⟨hcs, hrb, hfz, hB⟩ hx hd K hK
   have hcs' := hcs
   obtain ⟨c0, c1, c2, c3, c4, c5⟩ := hcs'
   have t18 : a.tmps[18]?.getD undef = .pointer (some ⟨w.heap.size + 1, 0, none⟩) := Reg.slot_val (hd 13 (by kernel_rfl) 18 rfl)
   go_simp
   exact hK _ _ (fun _ => rfl) (fun h => by cases h) ⟨hcs, hrb, hfz, hB⟩ trivial
  ·rintro a w1 ⟨hcs, hrb, hfz, hB⟩ hx hd K hK
   have hcs' := hcs
   obtain ⟨c0, c1, c2, c3, c4, c5⟩ := hcs'
   have t17 : a.tmps[17]?.getD undef = .float .f32 z := Reg.slot_val (hd 12 (by kernel_rfl) 17 rfl)
   have t19 : a.tmps[19]?.getD undef = .float .f32 x' := Reg.slot_val (hd 14 (by kernel_rfl) 19 rfl)
   go_simp
   refine (impl_product32 _ _ _ _ _ h3 h1').mono ?_
   rintro en w2 ⟨r, rfl, hr, n1, rfl⟩
   exact hK _ _ (fun _ => ⟨r, rfl, hr⟩) (fun h => by cases h) ⟨hcs, hrb, hfz, below_drewN hB _⟩ trivial
  ·rintro a w1 ⟨hcs, hrb, hfz, hB⟩ hx hd K hK
   have hcs' := hcs
   obtain ⟨c0, c1, c2, c3, c4, c5⟩ := hcs'
   have t2 : a.tmps[2]?.getD undef = .pointer (some ⟨w.heap.size, 0, none⟩) := Reg.slot_val (hx 2 (by kernel_rfl))
   go_simp
   exact hK _ _ (fun _ => rfl) (fun h => by cases h) ⟨hcs, hrb, hfz, hB⟩ trivial
  ·rintro a w1 ⟨hcs, hrb, hfz, hB⟩ hx hd K hK
   have hcs' := hcs
   obtain ⟨c0, c1, c2, c3, c4, c5⟩ := hcs'
   have t21 : a.tmps[21]?.getD undef = .pointer (some ⟨w.heap.size, 0, none⟩) := Reg.slot_val (hd 16 (by kernel_rfl) 21 rfl)
   go_simp
   exact hK _ _ (fun _ => rfl) (fun h => by cases h) ⟨hcs, hrb, hfz, hB⟩ trivial
  ·rintro a w1 ⟨hcs, hrb, hfz, hB⟩ hx hd K hK
   have hcs' := hcs
   obtain ⟨c0, c1, c2, c3, c4, c5⟩ := hcs'
   have t3 : a.tmps[3]?.getD undef = .pointer (some ⟨w.heap.size + 1, 0, none⟩) := Reg.slot_val (hx 3 (by kernel_rfl))
   go_simp
   exact hK _ _ (fun _ => rfl) (fun h => by cases h) ⟨hcs, hrb, hfz, hB⟩ trivial
  ·rintro a w1 ⟨hcs, hrb, hfz, hB⟩ hx hd K hK
   have hcs' := hcs
   obtain ⟨c0, c1, c2, c3, c4, c5⟩ := hcs'
   have t23 : a.tmps[23]?.getD undef = .pointer (some ⟨w.heap.size + 1, 2, none⟩) := Reg.slot_val (hd 18 (by kernel_rfl) 23 rfl)
   go_simp
   exact hK _ _ (fun _ => rfl) (fun h => by cases h) ⟨hcs, hrb, hfz, hB⟩ trivial
  ·rintro a w1 ⟨hcs, hrb, hfz, hB⟩ hx hd K hK
   have hcs' := hcs
   obtain ⟨c0, c1, c2, c3, c4, c5⟩ := hcs'
   have t22 : a.tmps[22]?.getD undef = .float .f32 x := Reg.slot_val (hd 17 (by kernel_rfl) 22 rfl)
   have t24 : a.tmps[24]?.getD undef = .float .f32 z' := Reg.slot_val (hd 19 (by kernel_rfl) 24 rfl)
   go_simp
   refine (impl_product32 _ _ _ _ _ h1 h3').mono ?_
   rintro en w2 ⟨r, rfl, hr, n1, rfl⟩
   exact hK _ _ (fun _ => ⟨r, rfl, hr⟩) (fun h => by cases h) ⟨hcs, hrb, hfz, below_drewN hB _⟩ trivial
  ·rintro a w1 ⟨hcs, hrb, hfz, hB⟩ hx hd K hK
   have hcs' := hcs
   obtain ⟨c0, c1, c2, c3, c4, c5⟩ := hcs'
   obtain ⟨r20, g20, f20⟩ := hd 15 (by kernel_rfl) 20 rfl
   have t20 := Reg.slot_val g20
   clear g20
   obtain ⟨r25, g25, f25⟩ := hd 20 (by kernel_rfl) 25 rfl
   have t25 := Reg.slot_val g25
   clear g25
   go_simp
   exact hK _ _ (fun _ => ⟨_, rfl, FV_fR f20 f25⟩) (fun h => by cases h) ⟨hcs, hrb, hfz, below_drewN hB _⟩ trivial
  ·rintro a w1 ⟨hcs, hrb, hfz, hB⟩ hx hd K hK
   have hcs' := hcs
   obtain ⟨c0, c1, c2, c3, c4, c5⟩ := hcs'
   have t2 : a.tmps[2]?.getD undef = .pointer (some ⟨w.heap.size, 0, none⟩) := Reg.slot_val (hx 2 (by kernel_rfl))
   go_simp
   exact hK _ _ (fun _ => rfl) (fun h => by cases h) ⟨hcs, hrb, hfz, hB⟩ trivial
  ·rintro a w1 ⟨hcs, hrb, hfz, hB⟩ hx hd K hK
   have hcs' := hcs
   obtain ⟨c0, c1, c2, c3, c4, c5⟩ := hcs'
   have t27 : a.tmps[27]?.getD undef = .pointer (some ⟨w.heap.size, 0, none⟩) := Reg.slot_val (hd 22 (by kernel_rfl) 27 rfl)
   go_simp
   exact hK _ _ (fun _ => rfl) (fun h => by cases h) ⟨hcs, hrb, hfz, hB⟩ trivial
  ·rintro a w1 ⟨hcs, hrb, hfz, hB⟩ hx hd K hK
   have hcs' := hcs
   obtain ⟨c0, c1, c2, c3, c4, c5⟩ := hcs'
   have t3 : a.tmps[3]?.getD undef = .pointer (some ⟨w.heap.size + 1, 0, none⟩) := Reg.slot_val (hx 3 (by kernel_rfl))
   go_simp
   exact hK _ _ (fun _ => rfl) (fun h => by cases h) ⟨hcs, hrb, hfz, hB⟩ trivial
  ·rintro a w1 ⟨hcs, hrb, hfz, hB⟩ hx hd K hK
   have hcs' := hcs
   obtain ⟨c0, c1, c2, c3, c4, c5⟩ := hcs'
   have t29 : a.tmps[29]?.getD undef = .pointer (some ⟨w.heap.size + 1, 1, none⟩) := Reg.slot_val (hd 24 (by kernel_rfl) 29 rfl)
   go_simp
   exact hK _ _ (fun _ => rfl) (fun h => by cases h) ⟨hcs, hrb, hfz, hB⟩ trivial
  ·rintro a w1 ⟨hcs, hrb, hfz, hB⟩ hx hd K hK
   have hcs' := hcs
   obtain ⟨c0, c1, c2, c3, c4, c5⟩ := hcs'
   have t28 : a.tmps[28]?.getD undef = .float .f32 x := Reg.slot_val (hd 23 (by kernel_rfl) 28 rfl)
   have t30 : a.tmps[30]?.getD undef = .float .f32 y' := Reg.slot_val (hd 25 (by kernel_rfl) 30 rfl)
   go_simp
   refine (impl_product32 _ _ _ _ _ h1 h2').mono ?_
   rintro en w2 ⟨r, rfl, hr, n1, rfl⟩
   exact hK _ _ (fun _ => ⟨r, rfl, hr⟩) (fun h => by cases h) ⟨hcs, hrb, hfz, below_drewN hB _⟩ trivial
  ·rintro a w1 ⟨hcs, hrb, hfz, hB⟩ hx hd K hK
   have hcs' := hcs
   obtain ⟨c0, c1, c2, c3, c4, c5⟩ := hcs'
   have t2 : a.tmps[2]?.getD undef = .pointer (some ⟨w.heap.size, 0, none⟩) := Reg.slot_val (hx 2 (by kernel_rfl))
   go_simp
   exact hK _ _ (fun _ => rfl) (fun h => by cases h) ⟨hcs, hrb, hfz, hB⟩ trivial
  ·rintro a w1 ⟨hcs, hrb, hfz, hB⟩ hx hd K hK
   have hcs' := hcs
   obtain ⟨c0, c1, c2, c3, c4, c5⟩ := hcs'
   have t32 : a.tmps[32]?.getD undef = .pointer (some ⟨w.heap.size, 1, none⟩) := Reg.slot_val (hd 27 (by kernel_rfl) 32 rfl)
   go_simp
   exact hK _ _ (fun _ => rfl) (fun h => by cases h) ⟨hcs, hrb, hfz, hB⟩ trivial
  ·rintro a w1 ⟨hcs, hrb, hfz, hB⟩ hx hd K hK
   have hcs' := hcs
   obtain ⟨c0, c1, c2, c3, c4, c5⟩ := hcs'
   have t3 : a.tmps[3]?.getD undef = .pointer (some ⟨w.heap.size + 1, 0, none⟩) := Reg.slot_val (hx 3 (by kernel_rfl))
   go_simp
   exact hK _ _ (fun _ => rfl) (fun h => by cases h) ⟨hcs, hrb, hfz, hB⟩ trivial
  ·rintro a w1 ⟨hcs, hrb, hfz, hB⟩ hx hd K hK
   have hcs' := hcs
   obtain ⟨c0, c1, c2, c3, c4, c5⟩ := hcs'
   have t34 : a.tmps[34]?.getD undef = .pointer (some ⟨w.heap.size + 1, 0, none⟩) := Reg.slot_val (hd 29 (by kernel_rfl) 34 rfl)
   go_simp
   exact hK _ _ (fun _ => rfl) (fun h => by cases h) ⟨hcs, hrb, hfz, hB⟩ trivial
  ·rintro a w1 ⟨hcs, hrb, hfz, hB⟩ hx hd K hK
   have hcs' := hcs
   obtain ⟨c0, c1, c2, c3, c4, c5⟩ := hcs'
   have t33 : a.tmps[33]?.getD undef = .float .f32 y := Reg.slot_val (hd 28 (by kernel_rfl) 33 rfl)
   have t35 : a.tmps[35]?.getD undef = .float .f32 x' := Reg.slot_val (hd 30 (by kernel_rfl) 35 rfl)
   go_simp
   refine (impl_product32 _ _ _ _ _ h2 h1').mono ?_
   rintro en w2 ⟨r, rfl, hr, n1, rfl⟩
   exact hK _ _ (fun _ => ⟨r, rfl, hr⟩) (fun h => by cases h) ⟨hcs, hrb, hfz, below_drewN hB _⟩ trivial
  ·rintro a w1 ⟨hcs, hrb, hfz, hB⟩ hx hd K hK
   have hcs' := hcs
   obtain ⟨c0, c1, c2, c3, c4, c5⟩ := hcs'
   obtain ⟨r31, g31, f31⟩ := hd 26 (by kernel_rfl) 31 rfl
   have t31 := Reg.slot_val g31
   clear g31
   obtain ⟨r36, g36, f36⟩ := hd 31 (by kernel_rfl) 36 rfl
   have t36 := Reg.slot_val g36
   clear g36
   go_simp
   exact hK _ _ (fun _ => ⟨_, rfl, FV_fR f31 f36⟩) (fun h => by cases h) ⟨hcs, hrb, hfz, below_drewN hB _⟩ trivial
  ·rintro a w1 ⟨hcs, hrb, hfz, hB⟩ hx hd K hK
   have hcs' := hcs
   obtain ⟨c0, c1, c2, c3, c4, c5⟩ := hcs'
   obtain ⟨r15, g15, f15⟩ := hd 10 (by kernel_rfl) 15 rfl
   have t15 := Reg.slot_val g15
   clear g15
   obtain ⟨r26, g26, f26⟩ := hd 21 (by kernel_rfl) 26 rfl
   have t26 := Reg.slot_val g26
   clear g26
   obtain ⟨r37, g37, f37⟩ := hd 32 (by kernel_rfl) 37 rfl
   have t37 := Reg.slot_val g37
   clear g37
   go_simp
   exact hK _ _ (fun _ => ⟨_, _, _, rfl, f15, f26, f37⟩) (fun h => by cases h) ⟨hcs, hrb, hfz, hB⟩ trivial
  ·rintro a w1 ⟨hcs, hrb, hfz, hB⟩ hx hd K hK
   have hcs' := hcs
   obtain ⟨c0, c1, c2, c3, c4, c5⟩ := hcs'
   have t4 : a.tmps[4]?.getD undef = .pointer (some ⟨w.heap.size + 1 + 1, 0, none⟩) := Reg.slot_val (hx 4 (by kernel_rfl))
   obtain ⟨r38, p38, q38, g38, f38⟩ := hd 33 (by kernel_rfl) 38 rfl
   have t38 := Reg.slot_val g38
   clear g38
   obtain ⟨u0, u1, u2, q0, q1, q2⟩ := hrb
   obtain ⟨z0, z1, z2⟩ := hfz
   go_simp
   have s3 := set3 (u := .float .f32 r38) (v := .float .f32 p38) (t := .float .f32 q38) q0 q1 q2
   refine hK undef _ (fun h => absurd rfl h) (fun _ => ⟨r38, p38, q38, s3.1, s3.2.1, s3.2.2, f38⟩) ⟨⟨cell_set (by first | omega | (simp <;> omega)) (cell_set (by first | omega | (simp <;> omega)) (cell_set (by first | omega | (simp <;> omega)) c0)), cell_set (by first | omega | (simp <;> omega)) (cell_set (by first | omega | (simp <;> omega)) (cell_set (by first | omega | (simp <;> omega)) c1)), cell_set (by first | omega | (simp <;> omega)) (cell_set (by first | omega | (simp <;> omega)) (cell_set (by first | omega | (simp <;> omega)) c2)), cell_set (by first | omega | (simp <;> omega)) (cell_set (by first | omega | (simp <;> omega)) (cell_set (by first | omega | (simp <;> omega)) c3)), cell_set (by first | omega | (simp <;> omega)) (cell_set (by first | omega | (simp <;> omega)) (cell_set (by first | omega | (simp <;> omega)) c4)), cell_set (by first | omega | (simp <;> omega)) (cell_set (by first | omega | (simp <;> omega)) (cell_set (by first | omega | (simp <;> omega)) c5))⟩, ⟨_, _, _, s3⟩, ⟨by simp [z0], by simp [z1], by simp [z2]⟩, below_set3 hB (by first | omega | (simp <;> omega))⟩ trivial
 ·rintro f w1 ⟨hcs, hrb, hfz, hB⟩ hd hT
  obtain ⟨a, b, g, s0, s1, s2, fa, fb, fg⟩ := hT 34 rfl (by decide)
  simp only [Reg.mixL]
  go_wp2
  refine bodyPost_ret (v := vv a b g) (by simp [results, Tryz.results258, go_sem, s0, s1, s2]) rfl ⟨_, _, _, rfl, fa, fb, fg, hB⟩
end Go.Proofs.YtabccmobmppdnaaGreat
namespace Go.Proofs.YtabccmobmppdnaaGreat
namespace Fk
open Go
set_option linter.unusedVariables false
theorem MB_write (k : FloatKind) (s : Bool) (m : Nat) (p e : Int) (h : m ≠ 0 → p + m.log2 < e) (he : k.format.leastPlace + k.format.fractionBits + 1 ≤ e)
  (hi : e ≤ 100) : MB k (k.format.write (.number s m p)) (e + 1) := by
 obtain ⟨r, hr, hb, _⟩ := nearest_small k.format s m p e h he
 have hB : 0 < k.format.binade := Nat.two_pow_pos _
 have hSB : k.format.infRung < k.format.signWeight := k.format.infRung_lt
 have hinf : (101 - k.format.fractionBits - k.format.leastPlace + 1).toNat * k.format.binade < k.format.infRung := by cases k <;> decide
 have hle : (e - k.format.fractionBits - k.format.leastPlace + 1).toNat ≤ (101 - k.format.fractionBits - k.format.leastPlace + 1).toNat := by omega
 have hlt : r < k.format.infRung := Nat.lt_of_le_of_lt (Nat.le_trans hb (Nat.mul_le_mul_right _ hle)) hinf
 show MB k (k.format.nearest s m p) (e + 1)
 rw [hr]
 unfold MB
 show ∃ s' m' p', k.format.read (k.format.word s r) = .number s' m' p' ∧ _
 unfold Ieee.Format.read
 dsimp only
 rw [word_mod _ _ _ (by omega)]
 have hfb : k.format.binade = 2 ^ k.format.fractionBits := rfl
 by_cases h1 : r < k.format.binade
 ·rw [if_pos h1]
  refine ⟨_, _, _, rfl, fun h0 => ?_⟩
  have : r.log2 < k.format.fractionBits := (Nat.log2_lt h0).2 (by rw [← hfb]; exact h1)
  omega
 ·rw [if_neg h1, if_pos hlt]
  refine ⟨_, _, _, rfl, fun h0 => ?_⟩
  have ht := Nat.mod_lt r hB
  have hl : (k.format.binade + r % k.format.binade).log2 < k.format.fractionBits + 1 := (Nat.log2_lt h0).2 (by rw [Nat.pow_succ, ← hfb]; omega)
  have hq : r / k.format.binade ≤ (e - k.format.fractionBits - k.format.leastPlace + 1).toNat := by
   have := Nat.div_le_div_right (c := k.format.binade) hb
   rwa [Nat.mul_div_cancel _ hB] at this
  have hq1 : 1 ≤ r / k.format.binade := (Nat.le_div_iff_mul_le hB).2 (by omega)
  omega
theorem rootFrom_lt (n : Nat) : ∀ (todo root : Nat), Ieee.Datum.rootFrom n todo root + 1 ≤ root + 2 ^ todo
 | 0, root => by simp [Ieee.Datum.rootFrom]
 | todo + 1, root => by
  unfold Ieee.Datum.rootFrom
  dsimp only
  have hs : (root + 1 <<< todo) = root + 2 ^ todo := by rw [Nat.shiftLeft_eq, Nat.one_mul]
  have h2 : 2 ^ (todo + 1) = 2 ^ todo + 2 ^ todo := by rw [Nat.pow_succ]; omega
  have hp := Nat.two_pow_pos todo
  rw [h2]
  split
  ·have := rootFrom_lt n todo (root + 1 <<< todo); rw [hs] at this ⊢; generalize 2 ^ todo = t at *; omega
  ·have := rootFrom_lt n todo root; generalize 2 ^ todo = t at *; omega
theorem root_ok {d : Nat} {x y : Ieee.Datum} (h : x.root d = some y) : x.isNaN = false ∧ y.isNaN = false := by
 cases x with
 | nan s t => simp [Ieee.Datum.root] at h
 | infinity s =>
  simp only [Ieee.Datum.root] at h
  split at h
  ·cases h
  ·cases h; exact ⟨rfl, rfl⟩
 | number s m i =>
  refine ⟨rfl, ?_⟩
  simp only [Ieee.Datum.root] at h
  split at h
  ·cases h; rfl
  ·split at h
   ·cases h
   ·cases h; rfl
theorem root_small (d : Nat) (x y : Ieee.Datum) (s : Bool) (m : Nat) (i : Int) (hx : x = .number s m i) (hb : m ≠ 0 → i + m.log2 < 129) (h : x.root d = some y) :
  ∃ s' m' i', y = .number s' m' i' ∧ (m' ≠ 0 → i' + m'.log2 < 67) := by
 subst hx
 simp only [Ieee.Datum.root] at h
 split at h
 ·rename_i h0; cases h; exact ⟨_, _, _, rfl, fun h => absurd h0 h⟩
 ·rename_i h0
  split at h
  ·cases h
  ·cases h
   refine ⟨_, _, _, rfl, fun _ => ?_⟩
   have hb' := hb h0
   generalize hmore : (2 * d - m.log2) + ((i - ((2 * d - m.log2 : Nat) : Int)) % 2).toNat = more
   generalize hn : m <<< more = n
   have hnl : n.log2 ≤ m.log2 + more := by
    by_cases hn0 : n = 0
    ·rw [hn0]; simp
    ·have h1 : n < 2 ^ (m.log2 + more + 1) := by
      rw [← hn, Nat.shiftLeft_eq]
      have : m * 2 ^ more < 2 ^ (m.log2 + 1) * 2 ^ more := Nat.mul_lt_mul_of_pos_right Nat.lt_log2_self (Nat.two_pow_pos _)
      rw [← Nat.pow_add] at this
      exact Nat.lt_of_lt_of_le this (Nat.pow_le_pow_right (by decide) (by omega))
     have := (Nat.log2_lt hn0).2 h1
     omega
   have hw := rootFrom_lt n (n.log2 / 2 + 1) 0
   rw [Nat.zero_add] at hw
   generalize Ieee.Datum.rootFrom n (n.log2 / 2 + 1) 0 = whole at hw ⊢
   have hbit : ((whole * whole != n).toNat) ≤ 1 := by cases (whole * whole != n) <;> simp
   generalize (whole * whole != n).toNat = b at hbit ⊢
   by_cases hz : 2 * whole + b = 0
   ·rw [hz]; simp; omega
   ·have hl : (2 * whole + b).log2 < n.log2 / 2 + 2 := (Nat.log2_lt hz).2 (by rw [Nat.pow_succ]; omega)
    omega
def fsq (c : Option Nat) : Option Nat := c.bind fun a => FloatKind.f64.format.sqrt a
def sR (x : Nat) (w : World) : Nat :=
 match FloatKind.f64.format.sqrt x with
 | some r => r
 | none => (Question.nanBits .f64 x x).cut (w.tape w.drawn (.nanBits .f64 x x))
def sN (x : Nat) : Nat :=
 match FloatKind.f64.format.sqrt x with
 | some _ => 0
 | none => 1
theorem FV_sR {x : Nat} {w : World} {c : Option Nat} (h : FV .f64 x c) : FV .f64 (sR x w) (fsq c) := by
 unfold sR fsq
 cases hs : FloatKind.f64.format.sqrt x with
 | some r =>
  refine have e := hs; ?_
  unfold Ieee.Format.sqrt at hs
  obtain ⟨d, hd, rfl⟩ := Option.map_eq_some_iff.1 hs
  have := root_ok hd
  have ec : c = some x := by rw [← h.2]; exact cls_num this.1
  subst ec
  refine ⟨FloatKind.f64.format.sqrt_lt e, ?_⟩
  rw [cls_num (isNaN_write .f64 d this.2)]
  exact e.symm
 | none =>
  have hc := cut_nan .f64 x x (w.tape w.drawn (.nanBits .f64 x x))
  refine ⟨hc.1, ?_⟩
  rw [cls_nan hc.2]
  cases c with
  | none => rfl
  | some a => obtain rfl := h.num; exact hs.symm
theorem run_sqrt {P : Program} (x : Nat) (w : World) : (Extern.MathSqrt.sqrt #[.float .f64 x]).run P w = .ok (.float .f64 (sR x w)) (w.drewN (sN x)) := by
 have hq : (Question.nanBits .f64 x x).forced = false := rfl
 unfold sR sN
 cases hs : FloatKind.f64.format.sqrt x with
 | some r =>
  show (match FloatKind.f64.format.sqrt x with | some r => (pure (.float .f64 r) : Sem Value) | none => do pure (.float .f64 (← choose (.nanBits .f64 x x)))).run P w = _
  rw [hs]; rfl
 | none =>
  show (match FloatKind.f64.format.sqrt x with | some r => (pure (.float .f64 r) : Sem Value) | none => do pure (.float .f64 (← choose (.nanBits .f64 x x)))).run P w = _
  rw [hs]; simp [hq]; rfl
theorem MB_wid {x : Nat} {s : Bool} {m : Nat} {p : Int} (h : FloatKind.f32.decode x = .number s m p) : MB .f64 (wid x) 129 := by
 obtain ⟨h1, h2, h3⟩ := decode32 x s m p h
 obtain ⟨r, he, hr⟩ := wid_word x s m p h
 unfold MB
 rw [he]
 show ∃ s' m' p', Ieee.double.read (Ieee.double.word s r) = .number s' m' p' ∧ _
 have e1 : Ieee.double.binade = 4503599627370496 := by decide
 have e2 : Ieee.double.infRung = 9218868437227405312 := by decide
 have e3 : Ieee.double.leastPlace = -1074 := by decide
 unfold Ieee.Format.read
 dsimp only
 rw [word_mod _ _ _ (show r < Ieee.double.signWeight by rw [show Ieee.double.signWeight = 9223372036854775808 by decide]; omega)]
 by_cases h1 : r < Ieee.double.binade
 ·rw [if_pos h1]
  refine ⟨_, _, _, rfl, fun h0 => ?_⟩
  have : r.log2 < 53 := (Nat.log2_lt h0).2 (by rw [e1] at h1; omega)
  rw [e3]; omega
 ·rw [if_neg h1, if_pos (by rw [e2]; omega)]
  refine ⟨_, _, _, rfl, fun h0 => ?_⟩
  rw [e1] at h0 h1 ⊢
  rw [e3]
  have hl : (4503599627370496 + r % 4503599627370496).log2 < 53 := (Nat.log2_lt h0).2 (by omega)
  omega
theorem ovf_sR {x : Nat} {w w' : World} (hx : x < 2 ^ FloatKind.f32.format.width) : ovf (sR (wR x w) w') = false := by
 cases hd : FloatKind.f64.decode (sR (wR x w) w') with
 | nan s t => unfold ovf; rw [hd]
 | infinity s => unfold ovf; rw [hd]
 | number s m p =>
  have hv := FV_sR (w := w') (FV_wR (w := w) (FV.self (k := .f32) hx))
  have hn : (FloatKind.f64.decode (sR (wR x w) w')).isNaN = false := by rw [hd]; rfl
  have hc := hv.2
  rw [cls_num hn] at hc
  unfold fsq cls at hc
  split at hc
  ·cases hc
  ·rename_i hnx
   have hc' : FloatKind.f64.format.sqrt (wid x) = some (sR (wR x w) w') := hc.symm
   unfold Ieee.Format.sqrt at hc'
   obtain ⟨d, hd', he⟩ := Option.map_eq_some_iff.1 hc'
   cases hdx : FloatKind.f32.decode x with
   | nan s t => rw [hdx] at hnx; simp [Ieee.Datum.isNaN] at hnx
   | infinity t =>
    have : FloatKind.f64.format.read (wid x) = .infinity t := by
     unfold wid; rw [hdx]; cases t <;> decide
    rw [this] at hd'
    have hdi : d = .infinity false := by
     cases t
     ·simp only [Ieee.Datum.root] at hd'; cases hd'; rfl
     ·simp [Ieee.Datum.root] at hd'
    rw [hdi] at he
    rw [← he] at hd
    have e9 : FloatKind.f64.decode (FloatKind.f64.format.write (.infinity false)) = .infinity false := by decide
    rw [e9] at hd; cases hd
   | number t n q =>
    obtain ⟨s1, m1, p1, h1, h2⟩ := MB_wid hdx
    obtain ⟨s2, m2, p2, h3, h4⟩ := root_small _ _ _ s1 m1 p1 h1 h2 hd'
    subst h3
    have := MB_write .f64 s2 m2 p2 67 h4 (by decide) (by decide)
    rw [he] at this
    exact ovf_small (this.mono (by decide))
end Fk
end Go.Proofs.YtabccmobmppdnaaGreat

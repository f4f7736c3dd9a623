/-
Texts in one: what StiffTimes stands on, part 29. Conditions: those of each.
-/
import Derived.Test.YtabccmobmppdnaaGreatKStiffTimes28
import Derived.Handy
-- halved
namespace Go.Proofs.YtabccmobmppdnaaGreat
open Go Fk Go.RowKit
set_option linter.unusedVariables false
set_option maxRecDepth 16000
theorem body_ss {c : Bc} (h : bodyB c = true) : c.ss.length ≤ 200 ∧ ∀ k, k < c.ss.length → inB c.cs.length (c.ss.getD k s0).1 = true ∧ inB c.cs.length (c.ss.getD k s0).2.1 = true := by
 unfold bodyB at h
 simp only [Bool.and_eq_true, decide_eq_true_eq] at h
 obtain ⟨⟨⟨_, h1⟩, _⟩, h2⟩ := h
 refine ⟨h1, fun k hk => ?_⟩
 have h3 := List.all_eq_true.1 h2 (c.ss[k]) (List.getElem_mem hk)
 unfold springB at h3
 simp only [Bool.and_eq_true] at h3
 have e : c.ss.getD k s0 = c.ss[k] := by simp [List.getD, hk]
 rw [e]
 exact ⟨h3.1.1.1, h3.1.1.2⟩
end Go.Proofs.YtabccmobmppdnaaGreat
namespace Go.Proofs.YtabccmobmppdnaaGreat
open Go Fk Go.RowKit
set_option linter.unusedVariables false
set_option maxRecDepth 16000
def ensW (zs : List Nat) (f : C3) (k : Nat) : List En := (List.range k).map fun i : Nat => .we (i : Int) (cls .f32 (zs.getD i 0)) f
def ens (c : Bc) : List En := ((c.ss.map En.sp ++ c.ts.map (fun t => En.fi t c.film)) ++ (hgT c.cs c.ts).map (fun h => En.hi h c.bend)) ++ ensW c.zs c.fall c.zs.length
def EnL (base : Nat) (w : World) (v : Value) (es : List En) : Prop := ∃ vals : List Value, w.ownsRow base 220 1 v es.length vals ∧ ∀ j, j < es.length → ∃ u, vals[j]? = some u ∧ (es.getD j (.sp s0)).Is u
theorem EnL.up {base : Nat} {w w' : World} {v : Value} {es : List En} (h : EnL base w v es) (hB : Below w.heap.size w w') : EnL base w' v es := by
 obtain ⟨vals, h1, h2⟩ := h
 exact ⟨vals, owns_up h1 hB, h2⟩
theorem EnL.low {base base' : Nat} {w : World} {v : Value} {es : List En} (h : EnL base w v es) (hb : base' ≤ base) : EnL base' w v es := by
 obtain ⟨vals, h1, h2⟩ := h
 exact ⟨vals, owns_low h1 hb, h2⟩
theorem EnL.snoc {base : Nat} {w w' : World} {v v' u : Value} {es : List En} {e : En} {vals : List Value} (h1 : w.ownsRow base 220 1 v es.length vals) (h2 : ∀ j, j < es.length → ∃ u, vals[j]? = some u ∧ (es.getD j (.sp s0)).Is u) (hu : e.Is u) (hv : w'.ownsRow base 220 1 v' (es.length + 1) (vals ++ [u])) : EnL base w' v' (es ++ [e]) := by
 have hl : vals.length = es.length := by rw [h1.1, Nat.mul_one]
 refine ⟨vals ++ [u], by rw [List.length_append, List.length_singleton]; exact hv, fun j hj => ?_⟩
 rw [List.length_append, List.length_singleton] at hj
 by_cases h : j < es.length
 ·obtain ⟨x, e1, e2⟩ := h2 j h
  refine ⟨x, by rw [List.getElem?_append_left (by omega)]; exact e1, ?_⟩
  rw [List.getD, List.getElem?_append_left h]
  exact e2
 ·obtain rfl : j = es.length := by omega
  refine ⟨u, by rw [← hl]; simp, ?_⟩
  simp [List.getD, hu]
theorem take_map {α : Type} {d : α} (f : α → En) (l : List α) {k : Nat} (hk : k < l.length) : (l.take (k + 1)).map f = (l.take k).map f ++ [f (l.getD k d)] := by
 rw [List.take_add_one, List.getElem?_eq_getElem hk, List.map_append]
 simp [List.getD, hk]
theorem ensW_s (zs : List Nat) (f : C3) (k : Nat) : ensW zs f (k + 1) = ensW zs f k ++ [.we (k : Int) (cls .f32 (zs.getD k 0)) f] := by
 unfold ensW
 rw [List.range_succ, List.map_append]
 rfl
theorem flatH_get : ∀ (rs : List (List Int)) (k i : Nat), k < rs.length → i < 4 → (flatH rs)[k * 4 + i]? = some (.int .i64 ((rs.getD k []).getD i 0))
 | [], k, i, h, _ => by simp at h
 | r :: rs, 0, i, _, hi => by
  have e : flatH (r :: rs) = [.int .i64 (r.getD 0 0), .int .i64 (r.getD 1 0), .int .i64 (r.getD 2 0), .int .i64 (r.getD 3 0)] ++ flatH rs := by simp [flatH]
  rw [e, Nat.zero_mul, Nat.zero_add, List.getElem?_append_left (by simp; omega)]
  match i, hi with
  | 0, _ => rfl
  | 1, _ => rfl
  | 2, _ => rfl
  | 3, _ => rfl
 | r :: rs, k + 1, i, h, hi => by
  have e : flatH (r :: rs) = [.int .i64 (r.getD 0 0), .int .i64 (r.getD 1 0), .int .i64 (r.getD 2 0), .int .i64 (r.getD 3 0)] ++ flatH rs := by simp [flatH]
  rw [e, List.getElem?_append_right (by simp; omega)]
  have := flatH_get rs k i (by simpa using h) hi
  rw [show (k + 1) * 4 + i - [Value.int .i64 (r.getD 0 0), .int .i64 (r.getD 1 0), .int .i64 (r.getD 2 0), .int .i64 (r.getD 3 0)].length = k * 4 + i by simp; omega]
  simpa using this
theorem fs_at {w : World} {a : Option Addr} {n cap k : Nat} {zs : List Nat} (h : IsFs .f32 w a n cap zs) (hk : k < n) : ∃ b o, a = some ⟨b, o, none⟩ ∧ w.cell? ⟨b, o + k, none⟩ = some (.float .f32 (zs.getD k 0)) := by
 obtain ⟨h1, h2, h3, h4, h5, h6⟩ := h
 cases ha : a with
 | none => have := (h5 ha).1; omega
 | some x =>
  obtain ⟨b, o, s⟩ := x
  have hc := h6 _ ha k hk
  cases s with
  | none => exact ⟨b, o, rfl, by rw [addr_add'] at hc; exact hc⟩
  | some y =>
   have h0 := h6 _ ha 0 (by omega)
   simp [World.cell?, Addr.add] at h0
   split at h0 <;> cases h0
theorem infoEn : (Tryz.prog.info? 220).map (fun i => (i.zero, i.size, i.bytes)) = some (some .nilIface, 1, 16) := by kernel_rfl
theorem hgT_len {c : Bc} (hv : validB c.cs c.ts = true) : (hgT c.cs c.ts).length ≤ 4096 := by
 unfold hgT
 rw [hv, cond_true]
 have h := edT_len c.cs c.ts
 unfold edT at h
 rw [hv] at h
 simp only [cond_true] at h
 rw [edgesT_pairs, List.length_map] at h
 exact Nat.le_trans (hgK_len _ _ _) h
theorem body_valid {c : Bc} (h : bodyB c = true) : validB c.cs c.ts = true ∧ c.zs.length = c.cs.length := by
 unfold bodyB at h
 simp only [Bool.and_eq_true, decide_eq_true_eq] at h
 obtain ⟨⟨⟨h0, h1⟩, h3⟩, h2⟩ := h
 exact ⟨h0, h3⟩
set_option maxHeartbeats 8000000 in
theorem impl_energies (B : Bd) (c : Bc) (w : World) (h : IsB w B c) (hb : bodyB c = true) :
  Calls Tryz.prog 105 #[B.v] w fun e w' => ∃ v, e = .returned v ∧ EnL w.heap.size w' v (ens c) ∧ Below w.heap.size w w' := by
 have uib := Tryz.underlying44
 have um := Tryz.underlying40
 have us := Tryz.underlying166
 have uc := Tryz.underlying190
 have uh := Tryz.underlying196
 have uv := Tryz.underlying42
 have u1 := Tryz.underlying192
 have u2 := Tryz.underlying198
 have u3 := Tryz.underlying200
 obtain ⟨i0, hi, hz0, hz1, hz2⟩ := info_parts infoEn
 obtain ⟨hvb, hzl⟩ := body_valid hb
 obtain ⟨v1, v2⟩ := body_ss hb
 have hh4 := hgT_len hvb
 have BX : Hid (Bx w [(w.heap.size, B.l)] (w.alloc (BoxB B 44))) := Lib.hid ((Bx.nil w).box (vs := B.l) (t := 44))
 have H3 : Hid (∀ k, k < B.tl → (c.ts.getD k []).length = 3) := Lib.hid (fun k hk => (tri_partsh (valid_rowh hvb (show k < c.ts.length by have := h.2.1.1; omega))).1)
 have HL : Hid (B.tl ≤ 128) := Lib.hid (by have := h.2.1.1; have := (valid_pl hvb).2; omega)
 have HHG := Lib.hid (fun (w : World) (hp : IsVs w B.pa B.pl B.pc c.cs) (ht : IsTs w B.ta B.tl B.tc c.ts) => impl_hinges B.pa B.ta B.pl B.pc B.tl B.tc c.cs c.ts w hp ht hvb)
 have HSL := Lib.hid h.2.2.1.1
 have HTL := Lib.hid h.2.1.1
 have HZL := Lib.hid h.2.2.2.1.1
 have HWL : Hid (B.wl ≤ 64) := Lib.hid (by have := h.2.2.2.1.1; have := (valid_pl hvb).1; omega)
 have HS2 : Hid (B.sl ≤ 200) := Lib.hid (by have := h.2.2.1.1; omega)
 have H := Lib.hid h
 unfold ens
 obtain ⟨hs, hhs⟩ : ∃ hs, hgT c.cs c.ts = hs := ⟨_, rfl⟩
 rw [hhs] at HHG hh4 ⊢
 have HH4 := Lib.hid hh4
 clear hvb hzl v1 v2 hh4 hhs h hb
 go_enter Tryz.func105, Tryz.ntmps105
 have a1 := (BX.out.mem (.head _)) 2 _ rfl
 go_wp2
 change Code.wp _ _ _ _ (w.alloc (BoxB B 44))
 generalize (w.alloc (BoxB B 44)) = W at *
 clear a1
 go_loopw [3, 15] (fun v i w' => ∃ k : Nat, k ≤ B.sl ∧ i = .int .i64 k ∧ Aside (EnL W.heap.size w' v ((c.ss.take k).map En.sp) ∧ Below W.heap.size W w')) (fun _ i _ => B.sl - (intOf i).toNat)
 case atStart => exact ⟨0, Nat.zero_le _, rfl, ⟨[], World.ownsRow_nil _ _ _ _, fun j hj => absurd hj (by simp)⟩, Below.refl _ _⟩
 case round =>
  obtain ⟨k, hk, rfl, hA⟩ := hrel
  obtain ⟨hE, hB⟩ := hA.out
  have HB := Lib.hid hB
  have HE := Lib.hid hE
  have BX2 := Lib.hid (BX.out.call hB)
  have hsz := hB.size
  by_cases hlt : k < B.sl
  ·have hk0 : (0 : Int) ≤ (k : Int) := by omega
   have hk1 : (k : Int) < (B.sl : Int) := by omega
   obtain ⟨bs, os, hbs, hsp⟩ := (H.out.below BX2.out.bel).2.2.1.some (by omega)
   obtain ⟨x, y, e0, e1, e2, e3, fx, fy⟩ := hsp k hlt
   have a1 := (BX2.out.mem (.head _)) 2 _ rfl
   rw [hbs]
   have lt0 := World.block_lt_of_cell? _ _ e0
   have HFX := Lib.hid (And.intro fx fy)
   have HST : Hid ((c.ss.take (k + 1)).map En.sp = ((c.ss.take k).map En.sp) ++ [En.sp (c.ss.getD k s0)]) := Lib.hid (by exact take_map En.sp c.ss (by have := HSL.out; omega))
   have HL0 : Hid (((c.ss.take k).map En.sp).length ≤ 8192) := Lib.hid (by simp [ensW]; have := HS2.out; have := HSL.out; have := HTL.out; have := HL.out; have := HH4.out; have := HWL.out; omega)
   obtain ⟨vals, hown, hvals⟩ := HE.out
   have HOW := Lib.hid hown
   have HVA := Lib.hid hvals
   generalize ((c.ss.take k).map En.sp) = es at *
   have HSK : Hid ((c.ss.getD k s0) = ((c.ss.getD k s0).1, (c.ss.getD k s0).2.1, (c.ss.getD k s0).2.2.1, (c.ss.getD k s0).2.2.2)) := rfl
   clear hA hE hB hown hvals hsp fx fy
   generalize c.ss.getD k s0 = sk at *
   obtain ⟨sa1, sb1, sc1, sd1⟩ := sk
   simp only at e0 e1 e2 e3
   go_wp2_with (at_builtin; refine wpList_append_own _ rfl _ _ 105 rfl W.heap.size 220 i0 .nilIface 1 16 Tryz.underlying105 hi hz0 hz1 hz2 rfl (by decide) _ _ _ rfl ((HOW.out.alloc _).alloc _) ⟨wr.heap.size + 1, 0, none⟩ 1 1 [Value.iface 166 (.agg #[.int .i64 sa1, .int .i64 sb1, .float .f32 x, .float .f32 y])] ?a0 rfl ?a1 ?a2 ?a3 ?a4 ?a5 ?_)
   try (case a0 => first | rfl | (simp [Act.eval]))
   try (case a1 =>
    intro j u hj
    match j, hj with
    | 0, hj => simp at hj; subst hj; first | (simp [Addr.add]; done) | exact E0.out
    | j + 1, hj => simp at hj)
   case a2 => first | rfl | (intro u hu; simp at hu; subst hu; rfl)
   case a3 => have := HL0.out; unfold maxLen; omega
   case a4 => have := HL0.out; omega
   case a5 => first | omega | (simp; omega)
   ·intro v' w1 hown' hgrow _
    have hAL : Below wr.heap.size wr ((wr.alloc (.cells #[.int .i64 sa1, .int .i64 sb1, .float .f32 x, .float .f32 y] 166)).alloc (.cells #[Value.iface 166 (.agg #[.int .i64 sa1, .int .i64 sb1, .float .f32 x, .float .f32 y])] 220)) := ((Below.refl _ _).alloc (Nat.le_refl _) _).alloc (by simp) _
    have hB1 := HB.out.trans (hAL.mono HB.out.size)
    have HB1 := Lib.hid (hB1.grown hgrow hB1.size (fun q hq => (HOW.out.lt q hq).1))
    have HE1 := Lib.hid (EnL.snoc (owns_up HOW.out hAL) HVA.out (e := .sp (sa1, sb1, sc1, sd1)) (⟨x, y, rfl, HFX.out.1, HFX.out.2⟩) hown')
    clear hown' hgrow hAL hB1
    have hs2 := HS2.out
    have hl128 := HL.out
    have hh4 := HH4.out
    have hwl := HWL.out
    go_wp2
    go_roundw
    case rel => exact ⟨k + 1, by omega, by go_num, by rw [HST.out]; exact HE1.out, HB1.out⟩
    case measure => simp [intOf]; omega
  ·obtain rfl : k = B.sl := by omega
   have HE0 : Hid (EnL W.heap.size wr _ (c.ss.map En.sp)) := Lib.hid (by have := hE; rwa [List.take_of_length_le (by have := HSL.out; omega)] at this)
   have a0 := (BX2.out.mem (.head _)) 0 _ rfl
   have a1 := (BX2.out.mem (.head _)) 1 _ rfl
   clear hA hE hB HE
   go_wp2_with fail
   clear a0 a1
   refine (all_cornersO B.pa B.ta B.pl B.pc B.tl B.tc c.ts wr (H.out.below BX2.out.bel).2.1 H3.out HL.out).mono ?_
   rintro e w3 ⟨rfl, hC, hB3, hcV, _, hCB⟩
   generalize hcb : wr.heap.size + 1 = cb at *
   have HCO := Lib.hid (owns_of_cs hCB hC (Nat.le_refl cb) (by have := HL.out; unfold maxLen; omega))
   have HE3 := Lib.hid (HE0.out.up hB3)
   have HB3 := Lib.hid (HB.out.trans (hB3.mono HB.out.size))
   clear hC hCB hB3 hcV hcb HE0
   go_wp2
   go_loopw [3, 29] (fun v i w' => ∃ k : Nat, k ≤ B.tl ∧ i = .int .i64 k ∧ Aside (EnL W.heap.size w' v (c.ss.map En.sp ++ (c.ts.take k).map (fun t => En.fi t c.film)) ∧ Below W.heap.size W w' ∧ w'.ownsRow cb 190 3 (.slice (some ⟨cb, 0, none⟩) B.tl B.tl) B.tl (flatV c.ts B.tl))) (fun _ i _ => B.tl - (intOf i).toNat)
   case atStart => exact ⟨0, Nat.zero_le _, rfl, by simpa using HE3.out, HB3.out, HCO.out⟩
   case round =>
    obtain ⟨k, hk, rfl, hA⟩ := hrel
    obtain ⟨hE, hB, hX⟩ := hA.out
    have HB := Lib.hid hB
    have HE := Lib.hid hE
    have BX2 := Lib.hid (BX.out.call hB)
    have hsz := hB.size
    have HX := Lib.hid hX
    by_cases hlt : k < B.tl
    ·have hk0 : (0 : Int) ≤ (k : Int) := by omega
     have hk1 : (k : Int) < (B.tl : Int) := by omega
     obtain ⟨z0, z1, z2⟩ := cs_of_owns hX k hlt
     have lt0 := World.block_lt_of_cell? _ _ z0
     have a3 := (BX2.out.mem (.head _)) 3 _ rfl
     have lt1 := World.block_lt_of_cell? _ _ a3
     have HST : Hid (c.ss.map En.sp ++ (c.ts.take (k + 1)).map (fun t => En.fi t c.film) = (c.ss.map En.sp ++ (c.ts.take k).map (fun t => En.fi t c.film)) ++ [En.fi (c.ts.getD k []) c.film]) := Lib.hid (by rw [take_map (fun t => En.fi t c.film) c.ts (d := []) (by have := HTL.out; omega), ← List.append_assoc])
     have HL0 : Hid ((c.ss.map En.sp ++ (c.ts.take k).map (fun t => En.fi t c.film)).length ≤ 8192) := Lib.hid (by simp [ensW]; have := HS2.out; have := HSL.out; have := HTL.out; have := HL.out; have := HH4.out; have := HWL.out; omega)
     obtain ⟨vals, hown, hvals⟩ := HE.out
     have HOW := Lib.hid hown
     have HVA := Lib.hid hvals
     generalize (c.ss.map En.sp ++ (c.ts.take k).map (fun t => En.fi t c.film)) = es at *
     clear hA hE hB hown hvals hX
     obtain ⟨j0, hj0⟩ : ∃ j0, (c.ts.getD k []).getD 0 0 = j0 := ⟨_, rfl⟩
     obtain ⟨j1, hj1⟩ : ∃ j1, (c.ts.getD k []).getD 1 0 = j1 := ⟨_, rfl⟩
     obtain ⟨j2, hj2⟩ : ∃ j2, (c.ts.getD k []).getD 2 0 = j2 := ⟨_, rfl⟩
     rw [hj0] at z0
     rw [hj1] at z1
     rw [hj2] at z2
     have HJ := Lib.hid (And.intro hj0 (And.intro hj1 hj2))
     clear hj0 hj1 hj2
     go_wp2_with (at_builtin; refine wpList_append_own _ rfl _ _ 105 rfl W.heap.size 220 i0 .nilIface 1 16 Tryz.underlying105 hi hz0 hz1 hz2 rfl (by decide) _ _ _ rfl ((HOW.out.alloc _).alloc _) ⟨wr.heap.size + 1, 0, none⟩ 1 1 [Value.iface 192 (.agg #[.int .i64 j0, .int .i64 j1, .int .i64 j2, .float .f32 B.film])] ?b0 rfl ?b1 ?b2 ?b3 ?b4 ?b5 ?_)
     try (case b0 => first | rfl | (simp [Act.eval]))
     try (case b1 =>
      intro j u hj
      match j, hj with
      | 0, hj => simp at hj; subst hj; first | (simp [Addr.add]; done) | exact E0.out
      | j + 1, hj => simp at hj)
     case b2 => first | rfl | (intro u hu; simp at hu; subst hu; rfl)
     case b3 => have := HL0.out; unfold maxLen; omega
     case b4 => have := HL0.out; omega
     case b5 => first | omega | (simp; omega)
     ·intro v' w1 hown' hgrow _
      have hAL : Below wr.heap.size wr ((wr.alloc (.cells #[.int .i64 j0, .int .i64 j1, .int .i64 j2] 190)).alloc (.cells #[Value.iface 192 (.agg #[.int .i64 j0, .int .i64 j1, .int .i64 j2, .float .f32 B.film])] 220)) := ((Below.refl _ _).alloc (Nat.le_refl _) _).alloc (by simp) _
      have hB1 := HB.out.trans (hAL.mono HB.out.size)
      have HB1 := Lib.hid (hB1.grown hgrow hB1.size (fun q hq => (HOW.out.lt q hq).1))
      have HE1 := Lib.hid (EnL.snoc (owns_up HOW.out hAL) HVA.out (e := .fi (c.ts.getD k []) c.film) (⟨B.film, by rw [HJ.out.1, HJ.out.2.1, HJ.out.2.2], H.out.2.2.2.2.1⟩) hown')
      have HX1 := Lib.hid (owns_side (owns_up HX.out hAL) (owns_up HOW.out hAL) (by decide) hgrow)
      clear hown' hgrow hAL hB1
      have hs2 := HS2.out
      have hl128 := HL.out
      have hh4 := HH4.out
      have hwl := HWL.out
      go_wp2
      go_roundw
      case rel => exact ⟨k + 1, by omega, by go_num, by rw [HST.out]; exact HE1.out, HB1.out, HX1.out⟩
      case measure => simp [intOf]; omega
    ·obtain rfl : k = B.tl := by omega
     have HE4 : Hid (EnL W.heap.size wr _ (c.ss.map En.sp ++ c.ts.map (fun t => En.fi t c.film))) := Lib.hid (by have := hE; rwa [List.take_of_length_le (by have := HTL.out; omega)] at this)
     have a0 := (BX2.out.mem (.head _)) 0 _ rfl
     have a1 := (BX2.out.mem (.head _)) 1 _ rfl
     clear hA hE hB HE hX HX
     go_wp2_with fail
     clear a0 a1
     refine (HHG.out wr (H.out.below BX2.out.bel).1 (H.out.below BX2.out.bel).2.1).mono ?_
     rintro e w5 ⟨hv, rfl, hho, hB5⟩
     obtain ⟨ha, hc, rfl⟩ := owns_slice hho
     have HHO := Lib.hid hho
     have HE5 := Lib.hid (HE4.out.up hB5)
     have HB5 := Lib.hid (HB.out.trans (hB5.mono HB.out.size))
     generalize wr.heap.size = hb0 at *
     clear hho hB5 HE4
     go_wp2
     go_loopw [3, 46] (fun v i w' => ∃ k : Nat, k ≤ hs.length ∧ i = .int .i64 k ∧ Aside (EnL W.heap.size w' v ((c.ss.map En.sp ++ c.ts.map (fun t => En.fi t c.film)) ++ (hs.take k).map (fun h => En.hi h c.bend)) ∧ Below W.heap.size W w' ∧ w'.ownsRow hb0 196 4 (.slice ha hs.length hc) hs.length (flatH hs))) (fun _ i _ => hs.length - (intOf i).toNat)
     case atStart => exact ⟨0, Nat.zero_le _, rfl, by simpa using HE5.out, HB5.out, HHO.out⟩
     case round =>
      obtain ⟨k, hk, rfl, hA⟩ := hrel
      obtain ⟨hE, hB, hX⟩ := hA.out
      have HB := Lib.hid hB
      have HE := Lib.hid hE
      have BX2 := Lib.hid (BX.out.call hB)
      have hsz := hB.size
      have HX := Lib.hid hX
      by_cases hlt : k < hs.length
      ·have hk0 : (0 : Int) ≤ (k : Int) := by omega
       have hk1 : (k : Int) < (hs.length : Int) := by omega
       obtain ⟨hg, rfl⟩ : ∃ hg, ha = some ⟨hg, 0, none⟩ := by
        rcases hX.2 with ⟨_, h0⟩ | ⟨g2, cap, cur, e, _⟩
        ·omega
        ·simp at e
         exact ⟨g2, e.1⟩
       have z0 : wr.cell? ⟨hg, k * 4 + 0, none⟩ = some (.int .i64 ((hs.getD k []).getD 0 0)) := by rw [hX.cellAt _ (by omega), flatH_get hs k 0 hlt (by decide)]
       have z1 : wr.cell? ⟨hg, k * 4 + 1, none⟩ = some (.int .i64 ((hs.getD k []).getD 1 0)) := by rw [hX.cellAt _ (by omega), flatH_get hs k 1 hlt (by decide)]
       have z2 : wr.cell? ⟨hg, k * 4 + 2, none⟩ = some (.int .i64 ((hs.getD k []).getD 2 0)) := by rw [hX.cellAt _ (by omega), flatH_get hs k 2 hlt (by decide)]
       have z3 : wr.cell? ⟨hg, k * 4 + 3, none⟩ = some (.int .i64 ((hs.getD k []).getD 3 0)) := by rw [hX.cellAt _ (by omega), flatH_get hs k 3 hlt (by decide)]
       rw [Nat.add_zero] at z0
       have lt0 := World.block_lt_of_cell? _ _ z0
       have a4 := (BX2.out.mem (.head _)) 4 _ rfl
       have lt1 := World.block_lt_of_cell? _ _ a4
       have HST : Hid ((c.ss.map En.sp ++ c.ts.map (fun t => En.fi t c.film)) ++ (hs.take (k + 1)).map (fun h => En.hi h c.bend) = ((c.ss.map En.sp ++ c.ts.map (fun t => En.fi t c.film)) ++ (hs.take k).map (fun h => En.hi h c.bend)) ++ [En.hi (hs.getD k []) c.bend]) := Lib.hid (by rw [take_map (fun h => En.hi h c.bend) hs (d := []) hlt, ← List.append_assoc])
       have HL0 : Hid (((c.ss.map En.sp ++ c.ts.map (fun t => En.fi t c.film)) ++ (hs.take k).map (fun h => En.hi h c.bend)).length ≤ 8192) := Lib.hid (by simp [ensW]; have := HS2.out; have := HSL.out; have := HTL.out; have := HL.out; have := HH4.out; have := HWL.out; omega)
       obtain ⟨vals, hown, hvals⟩ := HE.out
       have HOW := Lib.hid hown
       have HVA := Lib.hid hvals
       generalize ((c.ss.map En.sp ++ c.ts.map (fun t => En.fi t c.film)) ++ (hs.take k).map (fun h => En.hi h c.bend)) = es at *
       clear hA hE hB hown hvals hX
       obtain ⟨h0, hh0⟩ : ∃ h0, (hs.getD k []).getD 0 0 = h0 := ⟨_, rfl⟩
       rw [hh0] at z0
       obtain ⟨h1, hh1⟩ : ∃ h1, (hs.getD k []).getD 1 0 = h1 := ⟨_, rfl⟩
       rw [hh1] at z1
       obtain ⟨h2, hh2⟩ : ∃ h2, (hs.getD k []).getD 2 0 = h2 := ⟨_, rfl⟩
       rw [hh2] at z2
       obtain ⟨h3, hh3⟩ : ∃ h3, (hs.getD k []).getD 3 0 = h3 := ⟨_, rfl⟩
       rw [hh3] at z3
       have HJ := Lib.hid (And.intro hh0 (And.intro hh1 (And.intro hh2 hh3)))
       clear hh0 hh1 hh2 hh3
       go_wp2_with (at_builtin; refine wpList_append_own _ rfl _ _ 105 rfl W.heap.size 220 i0 .nilIface 1 16 Tryz.underlying105 hi hz0 hz1 hz2 rfl (by decide) _ _ _ rfl ((HOW.out.alloc _).alloc _) ⟨wr.heap.size + 1, 0, none⟩ 1 1 [Value.iface 198 (.agg #[.int .i64 h0, .int .i64 h1, .int .i64 h2, .int .i64 h3, .float .f32 B.bend])] ?c0 rfl ?c1 ?c2 ?c3 ?c4 ?c5 ?_)
       try (case c0 => first | rfl | (simp [Act.eval]))
       try (case c1 =>
        intro j u hj
        match j, hj with
        | 0, hj => simp at hj; subst hj; first | (simp [Addr.add]; done) | exact E0.out
        | j + 1, hj => simp at hj)
       case c2 => first | rfl | (intro u hu; simp at hu; subst hu; rfl)
       case c3 => have := HL0.out; unfold maxLen; omega
       case c4 => have := HL0.out; omega
       case c5 => first | omega | (simp; omega)
       ·intro v' w1 hown' hgrow _
        have hAL : Below wr.heap.size wr ((wr.alloc (.cells #[.int .i64 h0, .int .i64 h1, .int .i64 h2, .int .i64 h3] 196)).alloc (.cells #[Value.iface 198 (.agg #[.int .i64 h0, .int .i64 h1, .int .i64 h2, .int .i64 h3, .float .f32 B.bend])] 220)) := ((Below.refl _ _).alloc (Nat.le_refl _) _).alloc (by simp) _
        have hB1 := HB.out.trans (hAL.mono HB.out.size)
        have HB1 := Lib.hid (hB1.grown hgrow hB1.size (fun q hq => (HOW.out.lt q hq).1))
        have HE1 := Lib.hid (EnL.snoc (owns_up HOW.out hAL) HVA.out (e := .hi (hs.getD k []) c.bend) (⟨B.bend, by rw [HJ.out.1, HJ.out.2.1, HJ.out.2.2.1, HJ.out.2.2.2], H.out.2.2.2.2.2.1⟩) hown')
        have HX1 := Lib.hid (owns_side (owns_up HX.out hAL) (owns_up HOW.out hAL) (by decide) hgrow)
        clear hown' hgrow hAL hB1
        have hs2 := HS2.out
        have hl128 := HL.out
        have hh4 := HH4.out
        have hwl := HWL.out
        go_wp2
        go_roundw
        case rel => exact ⟨k + 1, by omega, by go_num, by rw [HST.out]; exact HE1.out, HB1.out, HX1.out⟩
        case measure => simp [intOf]; omega
      ·obtain rfl : k = hs.length := by omega
       have HE6 : Hid (EnL W.heap.size wr _ ((c.ss.map En.sp ++ c.ts.map (fun t => En.fi t c.film)) ++ hs.map (fun h => En.hi h c.bend))) := Lib.hid (by have := hE; rwa [List.take_of_length_le (Nat.le_refl _)] at this)
       have a5 := (BX2.out.mem (.head _)) 5 _ rfl
       clear hA hE hB HE hX HX
       go_wp2
       clear a5
       go_loopw [3, 62] (fun v i w' => ∃ k : Nat, k ≤ B.wl ∧ i = .int .i64 k ∧ Aside (EnL W.heap.size w' v (((c.ss.map En.sp ++ c.ts.map (fun t => En.fi t c.film)) ++ hs.map (fun h => En.hi h c.bend)) ++ ensW c.zs c.fall k) ∧ Below W.heap.size W w')) (fun _ i _ => B.wl - (intOf i).toNat)
       case atStart => exact ⟨0, Nat.zero_le _, rfl, by simpa [ensW] using HE6.out, HB.out⟩
       case round =>
        obtain ⟨k, hk, rfl, hA⟩ := hrel
        obtain ⟨hE, hB⟩ := hA.out
        have HB := Lib.hid hB
        have HE := Lib.hid hE
        have BX2 := Lib.hid (BX.out.call hB)
        have hsz := hB.size
        by_cases hlt : k < B.wl
        ·have hk0 : (0 : Int) ≤ (k : Int) := by omega
         have hk1 : (k : Int) < (B.wl : Int) := by omega
         have hwz : c.zs.getD k 0 < 2 ^ FloatKind.f32.format.width := by
          have hkz : k < c.zs.length := by have := HZL.out; omega
          have e : c.zs.getD k 0 = c.zs[k] := by simp [List.getD, hkz]
          rw [e]
          exact H.out.2.2.2.1.2.2.2.1 _ (List.getElem_mem hkz)
         obtain ⟨wb, wo, hwb, hwc⟩ : ∃ b o, B.wa = some ⟨b, o, none⟩ ∧ wr.cell? ⟨b, o + k, none⟩ = some (.float .f32 (c.zs.getD k 0)) := fs_at (H.out.below BX2.out.bel).2.2.2.1 hlt
         rw [hwb]
         have a6 := (BX2.out.mem (.head _)) 6 _ rfl
         have a7 := (BX2.out.mem (.head _)) 7 _ rfl
         have a8 := (BX2.out.mem (.head _)) 8 _ rfl
         have HWZ := Lib.hid hwz
         have HST : Hid (((c.ss.map En.sp ++ c.ts.map (fun t => En.fi t c.film)) ++ hs.map (fun h => En.hi h c.bend)) ++ ensW c.zs c.fall (k + 1) = (((c.ss.map En.sp ++ c.ts.map (fun t => En.fi t c.film)) ++ hs.map (fun h => En.hi h c.bend)) ++ ensW c.zs c.fall k) ++ [En.we (k : Int) (cls .f32 (c.zs.getD k 0)) c.fall]) := Lib.hid (by rw [ensW_s, ← List.append_assoc])
         have HL0 : Hid ((((c.ss.map En.sp ++ c.ts.map (fun t => En.fi t c.film)) ++ hs.map (fun h => En.hi h c.bend)) ++ ensW c.zs c.fall k).length ≤ 8192) := Lib.hid (by simp [ensW]; have := HS2.out; have := HSL.out; have := HTL.out; have := HL.out; have := HH4.out; have := HWL.out; omega)
         obtain ⟨vals, hown, hvals⟩ := HE.out
         have HOW := Lib.hid hown
         have HVA := Lib.hid hvals
         generalize (((c.ss.map En.sp ++ c.ts.map (fun t => En.fi t c.film)) ++ hs.map (fun h => En.hi h c.bend)) ++ ensW c.zs c.fall k) = es at *
         clear hA hE hB hown hvals hwz
         generalize c.zs.getD k 0 = zk at *
         go_wp2_with (at_builtin; refine wpList_append_own _ rfl _ _ 105 rfl W.heap.size 220 i0 .nilIface 1 16 Tryz.underlying105 hi hz0 hz1 hz2 rfl (by decide) _ _ _ rfl (HOW.out.alloc _) ⟨wr.heap.size, 0, none⟩ 1 1 [Value.iface 200 (.agg #[.int .i64 (k : Int), .float .f32 zk, .float .f32 B.x, .float .f32 B.y, .float .f32 B.z])] ?d0 rfl ?d1 ?d2 ?d3 ?d4 ?d5 ?_)
         try (case d0 => first | rfl | (simp [Act.eval]))
         try (case d1 =>
          intro j u hj
          match j, hj with
          | 0, hj => simp at hj; subst hj; first | (simp [Addr.add]; done) | exact E0.out
          | j + 1, hj => simp at hj)
         case d2 => first | rfl | (intro u hu; simp at hu; subst hu; rfl)
         case d3 => have := HL0.out; unfold maxLen; omega
         case d4 => have := HL0.out; omega
         case d5 => first | omega | (simp; omega)
         ·intro v' w1 hown' hgrow _
          have hAL : Below wr.heap.size wr (wr.alloc (.cells #[Value.iface 200 (.agg #[.int .i64 (k : Int), .float .f32 zk, .float .f32 B.x, .float .f32 B.y, .float .f32 B.z])] 220)) := (Below.refl _ _).alloc (Nat.le_refl _) _
          have hB1 := HB.out.trans (hAL.mono HB.out.size)
          have HB1 := Lib.hid (hB1.grown hgrow hB1.size (fun q hq => (HOW.out.lt q hq).1))
          have HE1 := Lib.hid (EnL.snoc (owns_up HOW.out hAL) HVA.out (e := .we (k : Int) (cls .f32 zk) c.fall) (⟨zk, B.x, B.y, B.z, rfl, FV.self HWZ.out, H.out.2.2.2.2.2.2⟩) hown')
          clear hown' hgrow hAL hB1
          have hs2 := HS2.out
          have hl128 := HL.out
          have hh4 := HH4.out
          have hwl := HWL.out
          go_wp2
          go_roundw
          case rel => exact ⟨k + 1, by omega, by go_num, by rw [HST.out]; exact HE1.out, HB1.out⟩
          case measure => simp [intOf]; omega
        ·obtain rfl : k = B.wl := by omega
         have hf := hE
         rw [← HZL.out] at hf
         have HF := Lib.hid (hf.low BX.out.bel.size)
         have HBF := Lib.hid BX2.out.bel
         clear hA hE hB HE hf
         go_wp2
         go_ret
         exact ⟨_, rfl, HF.out, HBF.out⟩
end Go.Proofs.YtabccmobmppdnaaGreat
namespace Go.Proofs.YtabccmobmppdnaaGreat
open Go Fk Go.RowKit
set_option linter.unusedVariables false
set_option maxRecDepth 16000
def EnS (w : World) (a : Option Addr) (es : List En) : Prop := ∀ j, j < es.length → ∃ g u, a = some ⟨g, 0, none⟩ ∧ w.cell? ⟨g, j, none⟩ = some u ∧ (es.getD j (.sp s0)).Is u
theorem EnS.below {w w' : World} {a : Option Addr} {es : List En} (h : EnS w a es) (hB : Below w.heap.size w w') : EnS w' a es := fun j hj => by
 obtain ⟨g, u, e, h1, h2⟩ := h j hj
 exact ⟨g, u, e, cell_below hB h1, h2⟩
end Go.Proofs.YtabccmobmppdnaaGreat
namespace Go.Proofs.YtabccmobmppdnaaGreat
namespace Reg5
open Go Reg
theorem Obl.fin {P : Program} {ops : Array Oper} {Q : Exit → Act → World → Prop} {m : Nat} {a0 : Act} {C D : World → Prop} {G G' : World → World → Prop} {R : Nat → Value → World → Prop} {T : Nat → Act → World → Prop} {i : Nat} {o : Oper} (hi : decide (i = m) = true) (hn : o.dst = none)
  (h : ∀ a w, C w → (∀ t, ((List.range ops.size).all fun j => slotOf ops j != some t || behind ops i j) = true → a.eval (.tmp t) = a0.eval (.tmp t)) →
   (∀ j, behind ops j i = true → Has ops R j a w) → ∀ K : Act → World → Prop, (∀ v w', T i a w' → K (a.put o.dst v) w') → o.wp P a w K Q) : Obl P ops m a0 C D G G' R T Q i o := by
 have hi' := of_decide_eq_true hi
 intro a w hC _ he hd
 refine h a w (hC (by omega)) he (fun j hj => hd j hj (.inl (by omega))) _ fun v w' h1 => ⟨v, rfl, fun e => absurd hn e, fun _ => h1, fun hm => ?_, fun _ e => absurd hn e, fun _ e => absurd hn e⟩
 omega
end Reg5
open Go Fk Go.RowKit
set_option linter.unusedVariables false
set_option maxRecDepth 16000
theorem ensW_get (zs : List Nat) (f : C3) (k j : Nat) (hj : j < k) : (ensW zs f k).getD j (.sp s0) = .we (j : Int) (cls .f32 (zs.getD j 0)) f := by
 unfold ensW
 simp [List.getD, hj]
theorem en_mem {es : List En} {j : Nat} (hj : j < es.length) : es.getD j (.sp s0) ∈ es := by
 rw [List.getD, List.getElem?_eq_getElem hj]
 exact List.getElem_mem _
theorem ens_ok {c : Bc} (hb : bodyB c = true) : (ens c).length ≤ 8192 ∧ ∀ j, j < (ens c).length → ((ens c).getD j (.sp s0)).ok c.cs.length := by
 obtain ⟨hvb, hzl⟩ := body_valid hb
 obtain ⟨v1, v2⟩ := body_ss hb
 obtain ⟨w1, w2⟩ := valid_pl hvb
 have hh := hgT_len hvb
 refine ⟨?_, fun j hj => ?_⟩
 ·unfold ens
  simp only [List.length_append, List.length_map, ensW, List.length_range]
  omega
 ·have hm := en_mem hj
  generalize (ens c).getD j (.sp s0) = e at *
  unfold ens at hm
  rcases List.mem_append.1 hm with hm | hm
  ·rcases List.mem_append.1 hm with hm | hm
   ·rcases List.mem_append.1 hm with hm | hm
    ·obtain ⟨s, hs, rfl⟩ := List.mem_map.1 hm
     obtain ⟨k, hk, rfl⟩ := List.mem_iff_getElem.1 hs
     have := v2 k hk
     have e : c.ss.getD k s0 = c.ss[k] := by simp [List.getD, hk]
     rw [e] at this
     exact this
    ·obtain ⟨t, ht, rfl⟩ := List.mem_map.1 hm
     obtain ⟨k, hk, rfl⟩ := List.mem_iff_getElem.1 ht
     have := valid_rowh hvb hk
     have e : c.ts.getD k [] = c.ts[k] := by simp [List.getD, hk]
     rw [e] at this
     exact this
   ·obtain ⟨h, hh, rfl⟩ := List.mem_map.1 hm
    unfold hgT at hh
    rw [hvb, cond_true] at hh
    obtain ⟨a, b, hab, hbn, rfl, h4⟩ := hgK_mem hh
    have hl := hrow_four h4
    have hin := hrow_in (n := c.cs.length) (fun i (hi : i < c.ts.length) => tri3_of (valid_rowh hvb hi)) hab hbn
    generalize hrow c.ts ((a : Int), (b : Int)) = r at *
    intro i hi
    have hm2 : r.getD i 0 ∈ r := by
     have hir : i < r.length := by omega
     rw [List.getD, List.getElem?_eq_getElem hir]
     exact List.getElem_mem _
    have := hin _ hm2
    unfold inB
    exact decide_eq_true ⟨this.1, this.2⟩
  ·unfold ensW at hm
   obtain ⟨k, hk, rfl⟩ := List.mem_map.1 hm
   have := List.mem_range.1 hk
   show inB c.cs.length (k : Int) = true
   unfold inB
   exact decide_eq_true ⟨by omega, by omega⟩
end Go.Proofs.YtabccmobmppdnaaGreat
namespace Go.Proofs.YtabccmobmppdnaaGreat
open Go Fk Go.RowKit
set_option linter.unusedVariables false
set_option maxRecDepth 16000
def addAt (X : List C3) (k : Nat) (c : C3) : List C3 := X.set k (plusC (X.getD k c0) c)
theorem addAt_len (X : List C3) (k : Nat) (c : C3) : (addAt X k c).length = X.length := by simp [addAt]
set_option maxHeartbeats 4000000 in
theorem add_force (w0 : World) (L : List (Nat × List Value)) (fb g k n x y z : Nat) (X : List C3) (c : C3) (w : World) (h : St w0 L g X w) (hm : (fb, [Value.slice (some ⟨g, 0, none⟩) n n]) ∈ L) (hn : X.length = n) (hk : k < n) (hx : n ≤ 1048576) (hf : F3 x y z c) :
  Calls Tryz.prog 170 #[.int .i64 (k : Int), vv x y z, .pointer (some ⟨fb, 0, none⟩)] w fun e w' => e = .returned (.tuple #[]) ∧ St w0 L g (addAt X k c) w' := by
 have u := Tryz.underlying27
 have uv := Tryz.underlying42
 have S1' : St w0 ((w.heap.size, [.float .f32 x, .float .f32 y, .float .f32 z]) :: L) g X (w.alloc (.cells #[.float .f32 x, .float .f32 y, .float .f32 z] 42)) := h.box
 have S1 := Lib.hid S1'
 have HM := Lib.hid (List.Mem.tail (w.heap.size, [Value.float .f32 x, .float .f32 y, .float .f32 z]) hm)
 have HKX : Hid (k < X.length) := Lib.hid (by omega)
 have HF := Lib.hid hf
 have hk0 : (0 : Int) ≤ (k : Int) := by omega
 have hk1 : (k : Int) < (n : Int) := by omega
 clear h hm S1' hf
 go_enter Tryz.func170, Tryz.ntmps170
 go_wp2_with fail
 generalize (w.alloc (.cells #[.float .f32 x, .float .f32 y, .float .f32 z] 42)) = W at *
 generalize w.heap.size = b at *
 refine Reg3.wp_region_mix (C := St w0 ((b, [.float .f32 x, .float .f32 y, .float .f32 z]) :: L) g X) (G := fun _ _ => True) (R := fun i v w' => match i with | 0 => v = .slice (some ⟨g, 0, none⟩) n n | 1 => v = .int .i64 (k : Int) | 2 => v = .slice (some ⟨g, 0, none⟩) n n | 3 => v = .int .i64 (k : Int) | 4 => v = .pointer (some ⟨g, k * 3, none⟩) | 5 => ∃ p q r, v = vv p q r ∧ F3 p q r (X.getD k c0) | 6 => v = vv x y z | 7 => ∃ p q r, v = vv p q r ∧ F3 p q r (plusC (X.getD k c0) c) | 8 => v = .pointer (some ⟨g, k * 3, none⟩) | _ => True) (T := fun _ _ w' => St w0 ((b, [.float .f32 x, .float .f32 y, .float .f32 z]) :: L) g (addAt X k c) w') [false, false, false, false, false, true, true, true, true, true, true, true, true, true]
  (by kernel_rfl) (by kernel_rfl) (by kernel_rfl) (fun _ _ _ _ _ _ h => h) (S1.out.drewN 1) ?_ ?_
 ·refine ⟨Reg3.Obl.mk ?_, Reg3.Obl.mk ?_, Reg3.Obl.mk ?_, Reg3.Obl.mk ?_, Reg3.Obl.mk ?_, Reg3.Obl.mk ?_, Reg3.Obl.mk ?_, Reg3.Obl.mk ?_, Reg3.Obl.mk ?_, Reg3.Obl.mk ?_, trivial⟩
  ·rintro a w1 HC hx hd K hK
   replace HC := Lib.hid HC
   have y9 := (HC.out.mem HM.out) 0 _ rfl
   have t2 : a.tmps[2]?.getD undef = .pointer (some ⟨fb, 0, none⟩) := Reg.slot_val (hx 2 (by kernel_rfl))
   go_simp
   exact hK _ _ (fun _ => rfl) (fun h => by cases h) (fun _ => HC.out) trivial
  ·rintro a w1 HC hx hd K hK
   replace HC := Lib.hid HC
   have t0 : a.tmps[0]?.getD undef = .int .i64 (k : Int) := Reg.slot_val (hx 0 (by kernel_rfl))
   go_simp
   exact hK _ _ (fun _ => rfl) (fun h => by cases h) (fun _ => HC.out) trivial
  ·rintro a w1 HC hx hd K hK
   replace HC := Lib.hid HC
   have y9 := (HC.out.mem HM.out) 0 _ rfl
   have t2 : a.tmps[2]?.getD undef = .pointer (some ⟨fb, 0, none⟩) := Reg.slot_val (hx 2 (by kernel_rfl))
   go_simp
   exact hK _ _ (fun _ => rfl) (fun h => by cases h) (fun _ => HC.out) trivial
  ·rintro a w1 HC hx hd K hK
   replace HC := Lib.hid HC
   have t0 : a.tmps[0]?.getD undef = .int .i64 (k : Int) := Reg.slot_val (hx 0 (by kernel_rfl))
   go_simp
   exact hK _ _ (fun _ => rfl) (fun h => by cases h) (fun _ => HC.out) trivial
  ·rintro a w1 HC hx hd K hK
   replace HC := Lib.hid HC
   have t7 : a.tmps[7]?.getD undef = .slice (some ⟨g, 0, none⟩) n n := Reg.slot_val (hd 2 (by kernel_rfl) 7 rfl)
   have t8 : a.tmps[8]?.getD undef = .int .i64 (k : Int) := Reg.slot_val (hd 3 (by kernel_rfl) 8 rfl)
   go_simp
   exact hK _ _ (fun _ => rfl) (fun h => by cases h) (fun _ => HC.out) trivial
  ·rintro a w1 HC hx hd K hK
   replace HC := Lib.hid HC
   obtain ⟨u0, u1, u2, ⟨x0, x1, x2⟩, fu⟩ := HC.out.own.at HKX.out
   have t9 : a.tmps[9]?.getD undef = .pointer (some ⟨g, k * 3, none⟩) := Reg.slot_val (hd 4 (by kernel_rfl) 9 rfl)
   go_simp
   exact hK _ _ (fun _ => ⟨u0, u1, u2, rfl, fu⟩) (fun h => by cases h) (fun _ => HC.out) trivial
  ·rintro a w1 HC hx hd K hK
   replace HC := Lib.hid HC
   have y0 := (HC.out.mem (.head _)) 0 _ rfl
   have y1 := (HC.out.mem (.head _)) 1 _ rfl
   have y2 := (HC.out.mem (.head _)) 2 _ rfl
   have t4 : a.tmps[4]?.getD undef = .pointer (some ⟨b, 0, none⟩) := Reg.slot_val (hx 4 (by kernel_rfl))
   go_simp
   exact hK _ _ (fun _ => rfl) (fun h => by cases h) (fun _ => HC.out) trivial
  ·rintro a w1 HC hx hd K hK
   replace HC := Lib.hid HC
   obtain ⟨p10, q10, r10, g10, f10⟩ := hd 5 (by kernel_rfl) 10 rfl
   have t10 := Reg.slot_val g10
   clear g10
   have t11 : a.tmps[11]?.getD undef = vv x y z := Reg.slot_val (hd 6 (by kernel_rfl) 11 rfl)
   go_simp
   refine (impl_AddVectors _ _ _ _ _ _ _ _ _ _ _ _ _ f10.1 f10.2.1 f10.2.2 HF.out.1 HF.out.2.1 HF.out.2.2).mono ?_
   rintro en w2 ⟨p', q', r', rfl, fp', fq', fr', hB2⟩
   exact hK _ _ (fun _ => ⟨p', q', r', rfl, fp', fq', fr'⟩) (fun h => by cases h) (fun _ => HC.out.call hB2) trivial
  ·rintro a w1 HC hx hd K hK
   replace HC := Lib.hid HC
   have t5 : a.tmps[5]?.getD undef = .slice (some ⟨g, 0, none⟩) n n := Reg.slot_val (hd 0 (by kernel_rfl) 5 rfl)
   have t6 : a.tmps[6]?.getD undef = .int .i64 (k : Int) := Reg.slot_val (hd 1 (by kernel_rfl) 6 rfl)
   go_simp
   exact hK _ _ (fun _ => rfl) (fun h => by cases h) (fun _ => HC.out) trivial
  ·rintro a w1 HC hx hd K hK
   replace HC := Lib.hid HC
   obtain ⟨u0, u1, u2, ⟨x0, x1, x2⟩, fu⟩ := HC.out.own.at HKX.out
   have k0 := HC.out.own.2.1 (k * 3)
   have k1 := HC.out.own.2.1 (k * 3 + 1)
   have k2 := HC.out.own.2.1 (k * 3 + 2)
   have t13 : a.tmps[13]?.getD undef = .pointer (some ⟨g, k * 3, none⟩) := Reg.slot_val (hd 8 (by kernel_rfl) 13 rfl)
   obtain ⟨p12, q12, r12, g12, f12⟩ := hd 7 (by kernel_rfl) 12 rfl
   have t12 := Reg.slot_val g12
   clear g12
   go_simp
   exact hK undef _ (fun h => absurd rfl h) (fun _ => HC.out.put HKX.out f12) (fun h => absurd rfl h) trivial
 ·rintro f W3 hR hT
  have h3 := hT 9 rfl (Nat.le_of_ble_eq_true rfl)
  simp only [Reg.mixL, Nat.zero_add, Nat.reduceAdd]
  have H3 := Lib.hid h3.drop
  clear hR hT h3
  go_wp2
  exact ⟨rfl, .tuple #[], by first | rfl | (simp [results, Tryz.results170, go_sem]; done) | (simp [results, Tryz.results170, go_sem]; rfl), rfl, H3.out⟩
end Go.Proofs.YtabccmobmppdnaaGreat

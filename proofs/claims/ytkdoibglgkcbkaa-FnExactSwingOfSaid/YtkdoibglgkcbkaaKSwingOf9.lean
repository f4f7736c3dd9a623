/-
Texts in one: what SwingOf stands on, part 9. Conditions: those of each.
-/
import Derived.Test.YtkdoibglgkcbkaaKSwingOf8
import Derived.Below
import Derived.LoopTactic
import Derived.IntWalk
import Derived.Laws.MakeOwn

/-
Lists of floats: copies of them, and that a list is the same as its copy. Conditions: at most 2^20 numbers.
-/
namespace Go.Proofs.Ytkdoibglgkcbkaa
open Go Fk Go.RowKit
set_option linter.unusedVariables false
set_option maxRecDepth 8000

/-- The cells of a copy behind k rounds. -/
def cur (zs : List Nat) (n k : Nat) : Array Value := ((zs.take k).map (fun z => Value.float .f32 z) ++ List.replicate (n - k) (Value.float .f32 0)).toArray
theorem cur_zero (zs : List Nat) (n : Nat) : cur zs n 0 = madeCells #[.float .f32 0] n := by
  unfold cur madeCells
  apply Array.ext'
  apply List.ext_getElem?
  intro i
  by_cases hi : i < n
  · simp [hi, Nat.mod_one]
  · simp [hi]
theorem cur_set (zs : List Nat) (n k : Nat) (hk : k < n) (hz : zs.length = n) : (cur zs n k).setIfInBounds k (.float .f32 (zs.getD k 0)) = cur zs n (k + 1) := by
  unfold cur
  apply Array.ext'
  rw [Array.toList_setIfInBounds]
  apply List.ext_getElem?
  intro i
  have hk' : k < zs.length := by omega
  have hl : ((zs.take k).map (fun z => Value.float .f32 z)).length = k := by simp; omega
  have hl' : ((zs.take (k + 1)).map (fun z => Value.float .f32 z)).length = k + 1 := by simp; omega
  rw [List.getElem?_set]
  by_cases hi : k = i
  · subst hi
    rw [if_pos rfl, if_pos (by simp; omega), List.getElem?_append_left (by omega)]
    simp [hk']
  · rw [if_neg hi]
    by_cases h1 : i < k
    · rw [List.getElem?_append_left (by omega), List.getElem?_append_left (by omega)]
      simp [h1, show i < k + 1 by omega]
    · rw [List.getElem?_append_right (by omega), List.getElem?_append_right (by omega), hl, hl', List.getElem?_replicate, List.getElem?_replicate]
      by_cases h2 : i < n
      · rw [if_pos (by omega), if_pos (by omega)]
      · rw [if_neg (by omega), if_neg (by omega)]
theorem cur_size (zs : List Nat) (n k : Nat) (hk : k ≤ n) (hz : zs.length = n) : (cur zs n k).size = n := by unfold cur; simp; omega
theorem cur_end (zs : List Nat) (n : Nat) (hz : zs.length = n) (i : Nat) (hi : i < n) : (cur zs n n)[i]? = some (.float .f32 (zs.getD i 0)) := by
  have hi' : i < zs.length := by omega
  have ht : zs.take n = zs := List.take_of_length_le (by omega)
  unfold cur
  rw [ht]
  simp [hi']
theorem addr_add (b o i : Nat) : (⟨b, o, none⟩ : Addr).add i = ⟨b, o + i, none⟩ := by
  unfold Addr.add
  split
  · rename_i h; subst h; rfl
  · rfl

theorem IsFs_below {W w : World} {a : Option Addr} {len cap : Nat} {zs : List Nat} (hb : Below W.heap.size W w) (h : IsFs .f32 W a len cap zs) : IsFs .f32 w a len cap zs := by
  obtain ⟨h1, h2, h3, h4, h5, h6⟩ := h
  refine ⟨h1, h2, h3, h4, h5, fun x hx i hi => ?_⟩
  have hc := h6 x hx i hi
  have hlt := World.block_lt_of_cell? W _ hc
  rw [hb.cell (p := x.add i) hlt]; exact hc
theorem IsFs_drewN {w : World} {n : Nat} {a : Option Addr} {len cap : Nat} {zs : List Nat} (h : IsFs .f32 w a len cap zs) : IsFs .f32 (w.drewN n) a len cap zs := h
/-- A list that is not empty lies somewhere. -/
theorem IsFs_some {w : World} {a : Option Addr} {len cap : Nat} {zs : List Nat} (h : IsFs .f32 w a len cap zs) (hl : 0 < len) :
    ∃ b o, a = some ⟨b, o, none⟩ ∧ ∀ i, i < len → w.cell? ⟨b, o + i, none⟩ = some (.float .f32 (zs.getD i 0)) := by
  obtain ⟨h1, h2, h3, h4, h5, h6⟩ := h
  cases a with
  | none => have := (h5 rfl).1; omega
  | some x =>
    obtain ⟨b, o, spot⟩ := x
    have hc := h6 _ rfl 0 hl
    have hspot : spot = none := by simpa [Addr.add] using World.cell?_spot hc
    subst hspot
    exact ⟨b, o, rfl, fun i hi => by have := h6 _ rfl i hi; rwa [addr_add] at this⟩
theorem info32 : (Try.prog.info? 22).map (fun i => (i.zero, i.size, i.bytes)) = some (some (.float .f32 0), 1, 4) := by kernel_rfl

set_option maxHeartbeats 400000 in
theorem laws_toFloat32SO (a : Option Addr) (len cap : Nat) (zs : List Nat) (w : World) (h : IsFs .f32 w a len cap zs) (hlen : len ≤ 1048576) :
    Calls Try.prog 111 #[.slice a len cap] w fun e w' => e = .returned (.slice (some ⟨w.heap.size, 0, none⟩) len len) ∧ IsFs .f32 w' (some ⟨w.heap.size, 0, none⟩) len len zs ∧ Below w.heap.size w w' ∧ w.heap.size < w'.heap.size ∧ ∀ i, w'.frozen? ⟨w.heap.size, i, none⟩ = false := by
  obtain ⟨i0, hi, hz0, hz1, hz2⟩ := info_parts info32
  have hzl := h.1
  have hzb := h.2.2.2.1
  have hmk : (Instr.makeSlice 58 (.int .i64 len) (.int .i64 len)).run Try.prog w = .ok (.slice (some ⟨w.heap.size, 0, none⟩) len len) (w.alloc (.cells (cur zs len 0) 22)) := by
    have := run_make (P := Try.prog) w 58 22 i0 (.float .f32 0) Try.underlying58 hi hz0 .i64 .i64 len len (by omega) (Int.le_refl _) (by rw [hz2]; omega) (by omega)
    rw [this, hz1, cur_zero]; simp; rfl
  have hfin : IsFs .f32 (w.alloc (.cells (cur zs len len) 22)) (some ⟨w.heap.size, 0, none⟩) len len zs := by
    refine ⟨hzl, Nat.le_refl _, by unfold maxLen; omega, hzb, by simp, fun x hx i hi => ?_⟩
    cases hx
    have := cur_end zs len hzl i hi
    rw [addr_add, Nat.zero_add]; simp [this]
  have HF := Lib.hid hfin
  clear hfin hzb
  go_enter Try.func111, Try.ntmps111
  go_wp2
  go_loopw [4] (fun i w' => ∃ k : Nat, k ≤ len ∧ i = .int .i64 k ∧ w' = w.alloc (.cells (cur zs len k) 22)) (fun i _ => len - (intOf i).toNat)
  case atStart => exact ⟨0, Nat.zero_le _, rfl, rfl⟩
  case round =>
    obtain ⟨k, hk, rfl, rfl⟩ := hrel
    by_cases hlt : k < len
    · obtain ⟨b, o, rfl, hcell⟩ := IsFs_some h (by omega)
      have hc0 := hcell k hlt
      have hblt := World.block_lt_of_cell? w _ hc0
      have hc : (w.alloc (.cells (cur zs len k) 22)).cell? ⟨b, o + k, none⟩ = some (.float .f32 (zs.getD k 0)) := by rw [World.cell?_alloc_lt (h := hblt)]; exact hc0
      have hsz := cur_size zs len k hk hzl
      have hd : (w.alloc (.cells (cur zs len k) 22)).cell? ⟨w.heap.size, k, none⟩ = some ((cur zs len k)[k]'(by omega)) := by simp [hsz, hlt]
      have hkz : k < zs.length := by omega
      have hset2 : (cur zs len k).setIfInBounds k (.float .f32 zs[k]) = cur zs len (k + 1) := by
        have := cur_set zs len k hlt hzl
        rw [show zs.getD k 0 = zs[k] by simp [List.getD, hkz]] at this; exact this
      have HS := Lib.hid hset2
      clear hset2 hcell hc0 hblt
      go_wp2
      go_roundw
      case rel => exact ⟨k + 1, by omega, by go_num, by rw [HS.out]⟩
      case measure => simp [intOf]; omega
    · obtain rfl : k = len := by omega
      go_wp2
      go_ret
      exact ⟨rfl, HF.out, (Below.refl _ _).alloc (Nat.le_refl _) _, by simp, fun i => by simp⟩
theorem laws_toFloat32S' (a : Option Addr) (len cap : Nat) (zs : List Nat) (w : World) (h : IsFs .f32 w a len cap zs) (hlen : len ≤ 1048576) :
    Calls Try.prog 111 #[.slice a len cap] w fun e w' => e = .returned (.slice (some ⟨w.heap.size, 0, none⟩) len len) ∧ IsFs .f32 w' (some ⟨w.heap.size, 0, none⟩) len len zs ∧ Below w.heap.size w w' ∧ w.heap.size < w'.heap.size :=
  (laws_toFloat32SO a len cap zs w h hlen).mono fun _ _ h => ⟨h.1, h.2.1, h.2.2.1, h.2.2.2.1⟩
theorem laws_toFloat32S (a : Option Addr) (len cap : Nat) (zs : List Nat) (w : World) (h : IsFs .f32 w a len cap zs) (hlen : len ≤ 1048576) :
    Calls Try.prog 111 #[.slice a len cap] w fun e w' => ∃ g, e = .returned (.slice (some ⟨g, 0, none⟩) len len) ∧ IsFs .f32 w' (some ⟨g, 0, none⟩) len len zs ∧ Below w.heap.size w w' :=
  (laws_toFloat32S' a len cap zs w h hlen).mono fun e w' ⟨he, hf, hb, _⟩ => ⟨_, he, hf, hb⟩

def isF64 (c : Option Nat) (v : Value) : Prop := ∃ r, v = .float .f64 r ∧ FV .f64 r c
set_option maxHeartbeats 1000000 in
theorem laws_eqFloat32S (a b : Option Addr) (len cap cap' : Nat) (zs : List Nat) (w : World) (ha : IsFs .f32 w a len cap zs) (hb : IsFs .f32 w b len cap' zs) (hlen : len ≤ 1048576) :
    Calls Try.prog 121 #[.slice a len cap, .slice b len cap'] w fun e w' => e = .returned (.bool true) ∧ ∃ n, w' = w.drewN n := by
  have u := Try.underlying22
  have u' := Try.underlying26
  have hzl := ha.1
  have hzb := ha.2.2.2.1
  go_enter Try.func121, Try.ntmps121
  go_wp2
  go_loopw [5] (fun i w' => ∃ k : Nat, k ≤ len ∧ i = .int .i64 k ∧ ∃ n, w' = w.drewN n) (fun i _ => len - (intOf i).toNat)
  case atStart => exact ⟨0, Nat.zero_le _, rfl, 0, rfl⟩
  case round =>
    obtain ⟨k, hk, rfl, n, rfl⟩ := hrel
    by_cases hlt : k < len
    · obtain ⟨b1, o1, rfl, hcell1⟩ := IsFs_some ha (by omega)
      obtain ⟨b2, o2, rfl, hcell2⟩ := IsFs_some hb (by omega)
      have c1 := hcell1 k hlt
      have c2 := hcell2 k hlt
      have hz : zs.getD k 0 < 2 ^ FloatKind.f32.format.width := by
        have hkz : k < zs.length := by omega
        rw [show zs.getD k 0 = zs[k] by simp [List.getD, hkz]]; exact hzb _ (List.getElem_mem _)
      generalize zs.getD k 0 = z at *
      have hv := FV.self hz
      clear hcell1 hcell2 hz hzb hzl ha hb
      have hk0 : (0 : Int) ≤ (k : Int) := by omega
      have hk1 : (k : Int) < (len : Int) := by omega
      go_wp2_with fail
      refine Reg.wp_region_mix (C := fun w' => ∃ n, w' = w.drewN n) (G := fun _ _ => True) (R := fun i v _ => match i with | 0 => v = .slice (some ⟨b1, o1, none⟩) len cap | 1 => v = .int .i64 k | 2 => v = .pointer (some ⟨b1, o1 + k, none⟩) | 3 => v = .float .f32 z | 4 => isF64 ((cls .f32 z).map wid) v | 5 => v = .slice (some ⟨b2, o2, none⟩) len cap' | 6 => v = .int .i64 k | 7 => v = .pointer (some ⟨b2, o2 + k, none⟩) | 8 => v = .float .f32 z | 9 => isF64 ((cls .f32 z).map wid) v | 10 => v = .bool true | 11 => v = .bool false | _ => True) (T := fun _ _ _ => True) [false, false, false, false, false, false, false, false, false, false, false, false, false, false, false, false, false, true, true, true, true, true, true, true, true, true, true, true, true]
        (by kernel_rfl) (by kernel_rfl) (by kernel_rfl) (fun _ _ _ _ _ _ h => h) ⟨n + 1, rfl⟩ ?_ ?_
      · refine ⟨Reg.Obl.mk ?_, Reg.Obl.mk ?_, Reg.Obl.mk ?_, Reg.Obl.mk ?_, Reg.Obl.mk ?_, Reg.Obl.mk ?_, Reg.Obl.mk ?_, Reg.Obl.mk ?_, Reg.Obl.mk ?_, Reg.Obl.mk ?_, Reg.Obl.mk ?_, Reg.Obl.mk ?_, trivial⟩
        · rintro a w1 ⟨n1, rfl⟩ hx hd K hK
          have t0 : a.tmps[0]?.getD undef = .slice (some ⟨b1, o1, none⟩) len cap := Reg.slot_val (hx 0 (by kernel_rfl))
          go_simp
          exact hK _ _ (fun _ => rfl) (fun h => by cases h) ⟨_, rfl⟩ trivial
        · rintro a w1 ⟨n1, rfl⟩ hx hd K hK
          have t5 : a.tmps[5]?.getD undef = .int .i64 k := Reg.slot_val (hx 5 (by kernel_rfl))
          go_simp
          exact hK _ _ (fun _ => rfl) (fun h => by cases h) ⟨_, rfl⟩ trivial
        · rintro a w1 ⟨n1, rfl⟩ hx hd K hK
          have t17 : a.tmps[17]?.getD undef = .slice (some ⟨b1, o1, none⟩) len cap := Reg.slot_val (hd 0 (by kernel_rfl) 17 rfl)
          have t18 : a.tmps[18]?.getD undef = .int .i64 k := Reg.slot_val (hd 1 (by kernel_rfl) 18 rfl)
          go_simp
          exact hK _ _ (fun _ => rfl) (fun h => by cases h) ⟨_, rfl⟩ trivial
        · rintro a w1 ⟨n1, rfl⟩ hx hd K hK
          have t19 : a.tmps[19]?.getD undef = .pointer (some ⟨b1, o1 + k, none⟩) := Reg.slot_val (hd 2 (by kernel_rfl) 19 rfl)
          go_simp
          exact hK _ _ (fun _ => rfl) (fun h => by cases h) ⟨_, rfl⟩ trivial
        · rintro a w1 ⟨n1, rfl⟩ hx hd K hK
          have t20 : a.tmps[20]?.getD undef = .float .f32 z := Reg.slot_val (hd 3 (by kernel_rfl) 20 rfl)
          go_simp
          exact hK _ _ (fun _ => ⟨_, rfl, FV_wR hv⟩) (fun h => by cases h) ⟨_, rfl⟩ trivial
        · rintro a w1 ⟨n1, rfl⟩ hx hd K hK
          have t1 : a.tmps[1]?.getD undef = .slice (some ⟨b2, o2, none⟩) len cap' := Reg.slot_val (hx 1 (by kernel_rfl))
          go_simp
          exact hK _ _ (fun _ => rfl) (fun h => by cases h) ⟨_, rfl⟩ trivial
        · rintro a w1 ⟨n1, rfl⟩ hx hd K hK
          have t5 : a.tmps[5]?.getD undef = .int .i64 k := Reg.slot_val (hx 5 (by kernel_rfl))
          go_simp
          exact hK _ _ (fun _ => rfl) (fun h => by cases h) ⟨_, rfl⟩ trivial
        · rintro a w1 ⟨n1, rfl⟩ hx hd K hK
          have t22 : a.tmps[22]?.getD undef = .slice (some ⟨b2, o2, none⟩) len cap' := Reg.slot_val (hd 5 (by kernel_rfl) 22 rfl)
          have t23 : a.tmps[23]?.getD undef = .int .i64 k := Reg.slot_val (hd 6 (by kernel_rfl) 23 rfl)
          go_simp
          exact hK _ _ (fun _ => rfl) (fun h => by cases h) ⟨_, rfl⟩ trivial
        · rintro a w1 ⟨n1, rfl⟩ hx hd K hK
          have t24 : a.tmps[24]?.getD undef = .pointer (some ⟨b2, o2 + k, none⟩) := Reg.slot_val (hd 7 (by kernel_rfl) 24 rfl)
          go_simp
          exact hK _ _ (fun _ => rfl) (fun h => by cases h) ⟨_, rfl⟩ trivial
        · rintro a w1 ⟨n1, rfl⟩ hx hd K hK
          have t25 : a.tmps[25]?.getD undef = .float .f32 z := Reg.slot_val (hd 8 (by kernel_rfl) 25 rfl)
          go_simp
          exact hK _ _ (fun _ => ⟨_, rfl, FV_wR hv⟩) (fun h => by cases h) ⟨_, rfl⟩ trivial
        · rintro a w1 ⟨n1, rfl⟩ hx hd K hK
          obtain ⟨r21, g21, f21⟩ := hd 4 (by kernel_rfl) 21 rfl
          have t21 := Reg.slot_val g21
          clear g21
          obtain ⟨r26, g26, f26⟩ := hd 9 (by kernel_rfl) 26 rfl
          have t26 := Reg.slot_val g26
          clear g26
          go_simp
          refine (laws_sameFloat _ _ _ _ f21 f26).mono ?_
          rintro en w2 ⟨rfl, n2, rfl⟩
          exact hK _ _ (fun _ => rfl) (fun h => by cases h) ⟨_, World.drewN_drewN ..⟩ trivial
        · rintro a w1 ⟨n1, rfl⟩ hx hd K hK
          have t27 : a.tmps[27]?.getD undef = .bool true := Reg.slot_val (hd 10 (by kernel_rfl) 27 rfl)
          go_simp
          exact hK _ _ (fun _ => rfl) (fun h => by cases h) ⟨_, rfl⟩ trivial
      · rintro f w1 ⟨n1, rfl⟩ hd hT
        have g28 : f 28 = .bool false := hd 11 28 rfl
        simp only [Reg.mixL, g28]
        go_wp2
        go_roundw
        case rel => exact ⟨k + 1, by omega, by go_num, _, rfl⟩
        case measure => simp [intOf]; omega
    · go_wp2
      go_ret
      exact ⟨rfl, _, rfl⟩
end Go.Proofs.Ytkdoibglgkcbkaa


/-
Products of vectors: what the program and its model return. Conditions: none beyond that the words fit.
-/
namespace Go.Proofs.Ytkdoibglgkcbkaa
open Go Fk Go.RowKit
set_option linter.unusedVariables false

theorem impl_product32 (x y : Nat) (w : World) (c d : Option Nat) (h1 : FV .f32 x c) (h2 : FV .f32 y d) :
    Calls Try.prog 70 #[.float .f32 x, .float .f32 y] w fun en w' => ∃ r, en = .returned (.float .f32 r) ∧ FV .f32 r (fop .mul .f32 c d) ∧ ∃ n, w' = w.drewN n := by
  have u := Try.underlying22
  go_enter Try.func70, Try.ntmps70
  go_wp2
  go_ret
  exact ⟨_, rfl, FV_fR h1 h2, _, rfl⟩

theorem l01Scale (x y z r : Nat) (w : World) (c d e q : Option Nat) (h1 : FV .f32 x c) (h2 : FV .f32 y d) (h3 : FV .f32 z e) (hr : FV .f32 r q) :
    Calls Try.prog 87 #[vv x y z, .float .f32 r] w fun en w' => ∃ a b g, en = .returned (vv a b g) ∧ FV .f32 a (fop .mul .f32 c q) ∧ FV .f32 b (fop .mul .f32 d q) ∧ FV .f32 g (fop .mul .f32 e q) ∧ Below w.heap.size w w' := by
  have u := Try.underlying22
  have uv := Try.underlying67
  go_enter Try.func87, Try.ntmps87
  go_wp2
  refine bodyPost_ret (v := vv _ _ _) (by simp [results, Try.results87, go_sem] <;> exact ⟨rfl, rfl, rfl⟩) rfl ⟨_, _, _, rfl, FV_fR h1 hr, FV_fR h2 hr, FV_fR h3 hr, ?_⟩
  exact below_drewN (((Below.refl _ _).alloc (Nat.le_refl _) _).alloc (by simp) _) _
set_option maxHeartbeats 2000000 in
theorem impl_ScaleVector (x y z r : Nat) (w : World) (c d e q : Option Nat) (h1 : FV .f32 x c) (h2 : FV .f32 y d) (h3 : FV .f32 z e) (hr : FV .f32 r q) :
    Calls Try.prog 58 #[vv x y z, .float .f32 r] w fun en w' => ∃ a b g, en = .returned (vv a b g) ∧ FV .f32 a (fop .mul .f32 c q) ∧ FV .f32 b (fop .mul .f32 d q) ∧ FV .f32 g (fop .mul .f32 e q) ∧ Below w.heap.size w w' := by
  have u := Try.underlying22
  have uv := Try.underlying67
  go_enter Try.func58, Try.ntmps58
  go_wp2_with fail
  go_region_held3 (fun w' => w'.cell? ⟨w.heap.size, 0, none⟩ = some (.float .f32 x) ∧ w'.cell? ⟨w.heap.size, 1, none⟩ = some (.float .f32 y) ∧ w'.cell? ⟨w.heap.size, 2, none⟩ = some (.float .f32 z)) (go_keep) ((go_at_call 70; refine (impl_product32 _ _ _ _ _ (by assumption) (by assumption)).mono ?_; rintro en w1 ⟨r1, rfl, hr1, n1, rfl⟩))
  all_goals
    go_wp2
    refine bodyPost_ret (v := vv _ _ _) (by simp [results, Try.results58, go_sem] <;> exact ⟨rfl, rfl, rfl⟩) rfl ⟨_, _, _, rfl, (by first | assumption | exact FV_fR (by assumption) (by assumption)), (by first | assumption | exact FV_fR (by assumption) (by assumption)), (by first | assumption | exact FV_fR (by assumption) (by assumption)), below_drewN (((Below.refl _ _).alloc (Nat.le_refl _) _).alloc (by simp) _) _⟩
theorem l01Cross (x y z x' y' z' : Nat) (w : World) (c d e c' d' e' : Option Nat) (h1 : FV .f32 x c) (h2 : FV .f32 y d) (h3 : FV .f32 z e) (h1' : FV .f32 x' c') (h2' : FV .f32 y' d') (h3' : FV .f32 z' e') :
    Calls Try.prog 148 #[vv x y z, vv x' y' z'] w fun en w' => ∃ a b g, en = .returned (vv a b g) ∧ FV .f32 a (fop .sub .f32 (fop .mul .f32 d e') (fop .mul .f32 e d')) ∧ FV .f32 b (fop .sub .f32 (fop .mul .f32 e c') (fop .mul .f32 c e')) ∧ FV .f32 g (fop .sub .f32 (fop .mul .f32 c d') (fop .mul .f32 d c')) ∧ Below w.heap.size w w' := by
  have u := Try.underlying22
  have uv := Try.underlying67
  go_enter Try.func148, Try.ntmps148
  go_wp2
  refine bodyPost_ret (v := vv _ _ _) (by simp [results, Try.results148, go_sem] <;> exact ⟨rfl, rfl, rfl⟩) rfl ⟨_, _, _, rfl, FV_fR (FV_fR h2 h3') (FV_fR h3 h2'), FV_fR (FV_fR h3 h1') (FV_fR h1 h3'), FV_fR (FV_fR h1 h2') (FV_fR h2 h1'), below_drewN ((((Below.refl _ _).alloc (Nat.le_refl _) _).alloc (by simp) _).alloc (by simp; omega) _) _⟩
theorem l01Inner (x y z x' y' z' : Nat) (w : World) (c d e c' d' e' : Option Nat) (h1 : FV .f32 x c) (h2 : FV .f32 y d) (h3 : FV .f32 z e) (h1' : FV .f32 x' c') (h2' : FV .f32 y' d') (h3' : FV .f32 z' e') :
    Calls Try.prog 147 #[vv x y z, vv x' y' z'] w fun en w' => ∃ a, en = .returned (.float .f32 a) ∧ FV .f32 a (fop .add .f32 (fop .add .f32 (fop .mul .f32 c c') (fop .mul .f32 d d')) (fop .mul .f32 e e')) ∧ Below w.heap.size w w' := by
  have u := Try.underlying22
  have uv := Try.underlying67
  go_enter Try.func147, Try.ntmps147
  go_wp2
  go_ret
  exact ⟨_, rfl, FV_fR (FV_fR (FV_fR h1 h1') (FV_fR h2 h2')) (FV_fR h3 h3'), below_drewN (((Below.refl _ _).alloc (Nat.le_refl _) _).alloc (by simp) _) _⟩
end Go.Proofs.Ytkdoibglgkcbkaa

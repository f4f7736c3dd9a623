/-
Texts in one: what HoldMesh stands on, part 20. Conditions: those of each.
-/
import Derived.Test.YtmbekamnogbgaaaKHoldMesh19
import Derived.Below
import Derived.LoopTactic
import Derived.IntWalk
import Derived.Laws.MakeOwn

/-
Lists of floats: copies of them, and that a list is the same as its copy. Conditions: at most 2^20 numbers.
-/
namespace Go.Proofs.Ytmbekamnogbgaaa
open Go Fk Go.RowKit
set_option linter.unusedVariables false
set_option maxRecDepth 8000

/-- The cells of a copy behind k rounds. -/
def cur (zs : List Nat) (n k : Nat) : Array Value := ((zs.take k).map (fun z => Value.float .f32 z) ++ List.replicate (n - k) (Value.float .f32 0)).toArray
theorem cur_zero (zs : List Nat) (n : Nat) : cur zs n 0 = madeCells #[.float .f32 0] n := by
  unfold cur madeCells
  apply Array.ext'
  apply List.ext_getElem?
  intro i
  by_cases hi : i < n
  · simp [hi, Nat.mod_one]
  · simp [hi]
theorem cur_set (zs : List Nat) (n k : Nat) (hk : k < n) (hz : zs.length = n) : (cur zs n k).setIfInBounds k (.float .f32 (zs.getD k 0)) = cur zs n (k + 1) := by
  unfold cur
  apply Array.ext'
  rw [Array.toList_setIfInBounds]
  apply List.ext_getElem?
  intro i
  have hk' : k < zs.length := by omega
  have hl : ((zs.take k).map (fun z => Value.float .f32 z)).length = k := by simp; omega
  have hl' : ((zs.take (k + 1)).map (fun z => Value.float .f32 z)).length = k + 1 := by simp; omega
  rw [List.getElem?_set]
  by_cases hi : k = i
  · subst hi
    rw [if_pos rfl, if_pos (by simp; omega), List.getElem?_append_left (by omega)]
    simp [hk']
  · rw [if_neg hi]
    by_cases h1 : i < k
    · rw [List.getElem?_append_left (by omega), List.getElem?_append_left (by omega)]
      simp [h1, show i < k + 1 by omega]
    · rw [List.getElem?_append_right (by omega), List.getElem?_append_right (by omega), hl, hl', List.getElem?_replicate, List.getElem?_replicate]
      by_cases h2 : i < n
      · rw [if_pos (by omega), if_pos (by omega)]
      · rw [if_neg (by omega), if_neg (by omega)]
theorem cur_size (zs : List Nat) (n k : Nat) (hk : k ≤ n) (hz : zs.length = n) : (cur zs n k).size = n := by unfold cur; simp; omega
theorem cur_end (zs : List Nat) (n : Nat) (hz : zs.length = n) (i : Nat) (hi : i < n) : (cur zs n n)[i]? = some (.float .f32 (zs.getD i 0)) := by
  have hi' : i < zs.length := by omega
  have ht : zs.take n = zs := List.take_of_length_le (by omega)
  unfold cur
  rw [ht]
  simp [hi']
theorem addr_add (b o i : Nat) : (⟨b, o, none⟩ : Addr).add i = ⟨b, o + i, none⟩ := by
  unfold Addr.add
  split
  · rename_i h; subst h; rfl
  · rfl

theorem IsFs_below {W w : World} {a : Option Addr} {len cap : Nat} {zs : List Nat} (hb : Below W.heap.size W w) (h : IsFs .f32 W a len cap zs) : IsFs .f32 w a len cap zs := by
  obtain ⟨h1, h2, h3, h4, h5, h6⟩ := h
  refine ⟨h1, h2, h3, h4, h5, fun x hx i hi => ?_⟩
  have hc := h6 x hx i hi
  have hlt := World.block_lt_of_cell? W _ hc
  rw [hb.cell (p := x.add i) hlt]; exact hc
theorem IsFs_drewN {w : World} {n : Nat} {a : Option Addr} {len cap : Nat} {zs : List Nat} (h : IsFs .f32 w a len cap zs) : IsFs .f32 (w.drewN n) a len cap zs := h
/-- A list that is not empty lies somewhere. -/
theorem IsFs_some {w : World} {a : Option Addr} {len cap : Nat} {zs : List Nat} (h : IsFs .f32 w a len cap zs) (hl : 0 < len) :
    ∃ b o, a = some ⟨b, o, none⟩ ∧ ∀ i, i < len → w.cell? ⟨b, o + i, none⟩ = some (.float .f32 (zs.getD i 0)) := by
  obtain ⟨h1, h2, h3, h4, h5, h6⟩ := h
  cases a with
  | none => have := (h5 rfl).1; omega
  | some x =>
    obtain ⟨b, o, spot⟩ := x
    have hc := h6 _ rfl 0 hl
    have hspot : spot = none := by simpa [Addr.add] using World.cell?_spot hc
    subst hspot
    exact ⟨b, o, rfl, fun i hi => by have := h6 _ rfl i hi; rwa [addr_add] at this⟩
theorem info32 : (Try.prog.info? 31).map (fun i => (i.zero, i.size, i.bytes)) = some (some (.float .f32 0), 1, 4) := by kernel_rfl

set_option maxHeartbeats 400000 in
theorem laws_toFloat32SO (a : Option Addr) (len cap : Nat) (zs : List Nat) (w : World) (h : IsFs .f32 w a len cap zs) (hlen : len ≤ 1048576) :
    Calls Try.prog 85 #[.slice a len cap] w fun e w' => e = .returned (.slice (some ⟨w.heap.size, 0, none⟩) len len) ∧ IsFs .f32 w' (some ⟨w.heap.size, 0, none⟩) len len zs ∧ Below w.heap.size w w' ∧ w.heap.size < w'.heap.size ∧ ∀ i, w'.frozen? ⟨w.heap.size, i, none⟩ = false := by
  obtain ⟨i0, hi, hz0, hz1, hz2⟩ := info_parts info32
  have hzl := h.1
  have hzb := h.2.2.2.1
  have hmk : (Instr.makeSlice 32 (.int .i64 len) (.int .i64 len)).run Try.prog w = .ok (.slice (some ⟨w.heap.size, 0, none⟩) len len) (w.alloc (.cells (cur zs len 0) 31)) := by
    have := run_make (P := Try.prog) w 32 31 i0 (.float .f32 0) Try.underlying32 hi hz0 .i64 .i64 len len (by omega) (Int.le_refl _) (by rw [hz2]; omega) (by omega)
    rw [this, hz1, cur_zero]; simp; rfl
  have hfin : IsFs .f32 (w.alloc (.cells (cur zs len len) 31)) (some ⟨w.heap.size, 0, none⟩) len len zs := by
    refine ⟨hzl, Nat.le_refl _, by unfold maxLen; omega, hzb, by simp, fun x hx i hi => ?_⟩
    cases hx
    have := cur_end zs len hzl i hi
    rw [addr_add, Nat.zero_add]; simp [this]
  have HF := Lib.hid hfin
  clear hfin hzb
  go_enter Try.func85, Try.ntmps85
  go_wp2
  go_loopw [4] (fun i w' => ∃ k : Nat, k ≤ len ∧ i = .int .i64 k ∧ w' = w.alloc (.cells (cur zs len k) 31)) (fun i _ => len - (intOf i).toNat)
  case atStart => exact ⟨0, Nat.zero_le _, rfl, rfl⟩
  case round =>
    obtain ⟨k, hk, rfl, rfl⟩ := hrel
    by_cases hlt : k < len
    · obtain ⟨b, o, rfl, hcell⟩ := IsFs_some h (by omega)
      have hc0 := hcell k hlt
      have hblt := World.block_lt_of_cell? w _ hc0
      have hc : (w.alloc (.cells (cur zs len k) 31)).cell? ⟨b, o + k, none⟩ = some (.float .f32 (zs.getD k 0)) := by rw [World.cell?_alloc_lt (h := hblt)]; exact hc0
      have hsz := cur_size zs len k hk hzl
      have hd : (w.alloc (.cells (cur zs len k) 31)).cell? ⟨w.heap.size, k, none⟩ = some ((cur zs len k)[k]'(by omega)) := by simp [hsz, hlt]
      have hkz : k < zs.length := by omega
      have hset2 : (cur zs len k).setIfInBounds k (.float .f32 zs[k]) = cur zs len (k + 1) := by
        have := cur_set zs len k hlt hzl
        rw [show zs.getD k 0 = zs[k] by simp [List.getD, hkz]] at this; exact this
      have HS := Lib.hid hset2
      clear hset2 hcell hc0 hblt
      go_wp2
      go_roundw
      case rel => exact ⟨k + 1, by omega, by go_num, by rw [HS.out]⟩
      case measure => simp [intOf]; omega
    · obtain rfl : k = len := by omega
      go_wp2
      go_ret
      exact ⟨rfl, HF.out, (Below.refl _ _).alloc (Nat.le_refl _) _, by simp, fun i => by simp⟩
theorem laws_toFloat32S' (a : Option Addr) (len cap : Nat) (zs : List Nat) (w : World) (h : IsFs .f32 w a len cap zs) (hlen : len ≤ 1048576) :
    Calls Try.prog 85 #[.slice a len cap] w fun e w' => e = .returned (.slice (some ⟨w.heap.size, 0, none⟩) len len) ∧ IsFs .f32 w' (some ⟨w.heap.size, 0, none⟩) len len zs ∧ Below w.heap.size w w' ∧ w.heap.size < w'.heap.size :=
  (laws_toFloat32SO a len cap zs w h hlen).mono fun _ _ h => ⟨h.1, h.2.1, h.2.2.1, h.2.2.2.1⟩
theorem laws_toFloat32S (a : Option Addr) (len cap : Nat) (zs : List Nat) (w : World) (h : IsFs .f32 w a len cap zs) (hlen : len ≤ 1048576) :
    Calls Try.prog 85 #[.slice a len cap] w fun e w' => ∃ g, e = .returned (.slice (some ⟨g, 0, none⟩) len len) ∧ IsFs .f32 w' (some ⟨g, 0, none⟩) len len zs ∧ Below w.heap.size w w' :=
  (laws_toFloat32S' a len cap zs w h hlen).mono fun e w' ⟨he, hf, hb, _⟩ => ⟨_, he, hf, hb⟩

def isF64 (c : Option Nat) (v : Value) : Prop := ∃ r, v = .float .f64 r ∧ FV .f64 r c
set_option maxHeartbeats 1000000 in
theorem laws_eqFloat32S (a b : Option Addr) (len cap cap' : Nat) (zs : List Nat) (w : World) (ha : IsFs .f32 w a len cap zs) (hb : IsFs .f32 w b len cap' zs) (hlen : len ≤ 1048576) :
    Calls Try.prog 67 #[.slice a len cap, .slice b len cap'] w fun e w' => e = .returned (.bool true) ∧ ∃ n, w' = w.drewN n := by
  have u := Try.underlying31
  have u' := Try.underlying80
  have hzl := ha.1
  have hzb := ha.2.2.2.1
  go_enter Try.func67, Try.ntmps67
  go_wp2
  go_loopw [5] (fun i w' => ∃ k : Nat, k ≤ len ∧ i = .int .i64 k ∧ ∃ n, w' = w.drewN n) (fun i _ => len - (intOf i).toNat)
  case atStart => exact ⟨0, Nat.zero_le _, rfl, 0, rfl⟩
  case round =>
    obtain ⟨k, hk, rfl, n, rfl⟩ := hrel
    by_cases hlt : k < len
    · obtain ⟨b1, o1, rfl, hcell1⟩ := IsFs_some ha (by omega)
      obtain ⟨b2, o2, rfl, hcell2⟩ := IsFs_some hb (by omega)
      have c1 := hcell1 k hlt
      have c2 := hcell2 k hlt
      have hz : zs.getD k 0 < 2 ^ FloatKind.f32.format.width := by
        have hkz : k < zs.length := by omega
        rw [show zs.getD k 0 = zs[k] by simp [List.getD, hkz]]; exact hzb _ (List.getElem_mem _)
      generalize zs.getD k 0 = z at *
      have hv := FV.self hz
      clear hcell1 hcell2 hz hzb hzl ha hb
      have hk0 : (0 : Int) ≤ (k : Int) := by omega
      have hk1 : (k : Int) < (len : Int) := by omega
      go_wp2_with fail
      refine Reg.wp_region_mix (C := fun w' => ∃ n, w' = w.drewN n) (G := fun _ _ => True) (R := fun i v _ => match i with | 0 => v = .slice (some ⟨b1, o1, none⟩) len cap | 1 => v = .int .i64 k | 2 => v = .pointer (some ⟨b1, o1 + k, none⟩) | 3 => v = .float .f32 z | 4 => isF64 ((cls .f32 z).map wid) v | 5 => v = .slice (some ⟨b2, o2, none⟩) len cap' | 6 => v = .int .i64 k | 7 => v = .pointer (some ⟨b2, o2 + k, none⟩) | 8 => v = .float .f32 z | 9 => isF64 ((cls .f32 z).map wid) v | 10 => v = .bool true | 11 => v = .bool false | _ => True) (T := fun _ _ _ => True) [false, false, false, false, false, false, false, false, false, false, false, false, false, false, false, false, false, true, true, true, true, true, true, true, true, true, true, true, true]
        (by kernel_rfl) (by kernel_rfl) (by kernel_rfl) (fun _ _ _ _ _ _ h => h) ⟨n + 1, rfl⟩ ?_ ?_
      · refine ⟨Reg.Obl.mk ?_, Reg.Obl.mk ?_, Reg.Obl.mk ?_, Reg.Obl.mk ?_, Reg.Obl.mk ?_, Reg.Obl.mk ?_, Reg.Obl.mk ?_, Reg.Obl.mk ?_, Reg.Obl.mk ?_, Reg.Obl.mk ?_, Reg.Obl.mk ?_, Reg.Obl.mk ?_, trivial⟩
        · rintro a w1 ⟨n1, rfl⟩ hx hd K hK
          have t0 : a.tmps[0]?.getD undef = .slice (some ⟨b1, o1, none⟩) len cap := Reg.slot_val (hx 0 (by kernel_rfl))
          go_simp
          exact hK _ _ (fun _ => rfl) (fun h => by cases h) ⟨_, rfl⟩ trivial
        · rintro a w1 ⟨n1, rfl⟩ hx hd K hK
          have t5 : a.tmps[5]?.getD undef = .int .i64 k := Reg.slot_val (hx 5 (by kernel_rfl))
          go_simp
          exact hK _ _ (fun _ => rfl) (fun h => by cases h) ⟨_, rfl⟩ trivial
        · rintro a w1 ⟨n1, rfl⟩ hx hd K hK
          have t17 : a.tmps[17]?.getD undef = .slice (some ⟨b1, o1, none⟩) len cap := Reg.slot_val (hd 0 (by kernel_rfl) 17 rfl)
          have t18 : a.tmps[18]?.getD undef = .int .i64 k := Reg.slot_val (hd 1 (by kernel_rfl) 18 rfl)
          go_simp
          exact hK _ _ (fun _ => rfl) (fun h => by cases h) ⟨_, rfl⟩ trivial
        · rintro a w1 ⟨n1, rfl⟩ hx hd K hK
          have t19 : a.tmps[19]?.getD undef = .pointer (some ⟨b1, o1 + k, none⟩) := Reg.slot_val (hd 2 (by kernel_rfl) 19 rfl)
          go_simp
          exact hK _ _ (fun _ => rfl) (fun h => by cases h) ⟨_, rfl⟩ trivial
        · rintro a w1 ⟨n1, rfl⟩ hx hd K hK
          have t20 : a.tmps[20]?.getD undef = .float .f32 z := Reg.slot_val (hd 3 (by kernel_rfl) 20 rfl)
          go_simp
          exact hK _ _ (fun _ => ⟨_, rfl, FV_wR hv⟩) (fun h => by cases h) ⟨_, rfl⟩ trivial
        · rintro a w1 ⟨n1, rfl⟩ hx hd K hK
          have t1 : a.tmps[1]?.getD undef = .slice (some ⟨b2, o2, none⟩) len cap' := Reg.slot_val (hx 1 (by kernel_rfl))
          go_simp
          exact hK _ _ (fun _ => rfl) (fun h => by cases h) ⟨_, rfl⟩ trivial
        · rintro a w1 ⟨n1, rfl⟩ hx hd K hK
          have t5 : a.tmps[5]?.getD undef = .int .i64 k := Reg.slot_val (hx 5 (by kernel_rfl))
          go_simp
          exact hK _ _ (fun _ => rfl) (fun h => by cases h) ⟨_, rfl⟩ trivial
        · rintro a w1 ⟨n1, rfl⟩ hx hd K hK
          have t22 : a.tmps[22]?.getD undef = .slice (some ⟨b2, o2, none⟩) len cap' := Reg.slot_val (hd 5 (by kernel_rfl) 22 rfl)
          have t23 : a.tmps[23]?.getD undef = .int .i64 k := Reg.slot_val (hd 6 (by kernel_rfl) 23 rfl)
          go_simp
          exact hK _ _ (fun _ => rfl) (fun h => by cases h) ⟨_, rfl⟩ trivial
        · rintro a w1 ⟨n1, rfl⟩ hx hd K hK
          have t24 : a.tmps[24]?.getD undef = .pointer (some ⟨b2, o2 + k, none⟩) := Reg.slot_val (hd 7 (by kernel_rfl) 24 rfl)
          go_simp
          exact hK _ _ (fun _ => rfl) (fun h => by cases h) ⟨_, rfl⟩ trivial
        · rintro a w1 ⟨n1, rfl⟩ hx hd K hK
          have t25 : a.tmps[25]?.getD undef = .float .f32 z := Reg.slot_val (hd 8 (by kernel_rfl) 25 rfl)
          go_simp
          exact hK _ _ (fun _ => ⟨_, rfl, FV_wR hv⟩) (fun h => by cases h) ⟨_, rfl⟩ trivial
        · rintro a w1 ⟨n1, rfl⟩ hx hd K hK
          obtain ⟨r21, g21, f21⟩ := hd 4 (by kernel_rfl) 21 rfl
          have t21 := Reg.slot_val g21
          clear g21
          obtain ⟨r26, g26, f26⟩ := hd 9 (by kernel_rfl) 26 rfl
          have t26 := Reg.slot_val g26
          clear g26
          go_simp
          refine (laws_sameFloat _ _ _ _ f21 f26).mono ?_
          rintro en w2 ⟨rfl, n2, rfl⟩
          exact hK _ _ (fun _ => rfl) (fun h => by cases h) ⟨_, World.drewN_drewN ..⟩ trivial
        · rintro a w1 ⟨n1, rfl⟩ hx hd K hK
          have t27 : a.tmps[27]?.getD undef = .bool true := Reg.slot_val (hd 10 (by kernel_rfl) 27 rfl)
          go_simp
          exact hK _ _ (fun _ => rfl) (fun h => by cases h) ⟨_, rfl⟩ trivial
      · rintro f w1 ⟨n1, rfl⟩ hd hT
        have g28 : f 28 = .bool false := hd 11 28 rfl
        simp only [Reg.mixL, g28]
        go_wp2
        go_roundw
        case rel => exact ⟨k + 1, by omega, by go_num, _, rfl⟩
        case measure => simp [intOf]; omega
    · go_wp2
      go_ret
      exact ⟨rfl, _, rfl⟩
end Go.Proofs.Ytmbekamnogbgaaa


/-
Copies of bodies, and that they are the same: what the law's own functions return. Conditions: at most 2^20 of each.
-/
namespace Go.Proofs.Ytmbekamnogbgaaa
open Go Fk Go.RowKit
set_option linter.unusedVariables false
set_option maxRecDepth 8000

/-- Where a body's parts lie, and its numbers. -/
structure Bd where
  (pa ta sa wa : Option Addr)
  (pl pc tl tc sl sc wl wc film bend x y z : Nat)
/-- The body's value. -/
abbrev Bd.v (B : Bd) : Value := .agg #[.slice B.pa B.pl B.pc, .slice B.ta B.tl B.tc, .slice B.sa B.sl B.sc, .float .f32 B.film, .float .f32 B.bend, .slice B.wa B.wl B.wc, .float .f32 B.x, .float .f32 B.y, .float .f32 B.z]
/-- The body's cells. -/
abbrev Bd.l (B : Bd) : List Value := [.slice B.pa B.pl B.pc, .slice B.ta B.tl B.tc, .slice B.sa B.sl B.sc, .float .f32 B.film, .float .f32 B.bend, .slice B.wa B.wl B.wc, .float .f32 B.x, .float .f32 B.y, .float .f32 B.z]
/-- What a body is. -/
structure Bc where
  (cs : List C3) (ts : List (List Int)) (ss : List SC) (zs : List Nat) (film bend : Option Nat) (fall : C3)
def IsB (w : World) (B : Bd) (c : Bc) : Prop :=
  IsVs w B.pa B.pl B.pc c.cs ∧ IsTs w B.ta B.tl B.tc c.ts ∧ IsSs w B.sa B.sl B.sc c.ss ∧ IsFs .f32 w B.wa B.wl B.wc c.zs ∧ FV .f32 B.film c.film ∧ FV .f32 B.bend c.bend ∧ FV3 B.x B.y B.z c.fall
theorem IsB.below {W w : World} {B : Bd} {c : Bc} (hb : Below W.heap.size W w) (h : IsB W B c) : IsB w B c :=
  ⟨h.1.below hb, h.2.1.below hb, h.2.2.1.below hb, IsFs_below hb h.2.2.2.1, h.2.2.2.2⟩
def SmallB (c : Bc) : Prop := Small c.cs c.ts ∧ c.ss.length ≤ 1048576 ∧ c.zs.length ≤ 1048576

theorem laws_szBody' (B : Bd) (c : Bc) (left : Int) (w : World) (h : IsB w B c) (h0 : 0 ≤ left) (h1 : left ≤ 1048576) :
    Calls Try.prog 24 #[B.v, .int .i64 left] w fun e w' => (∃ r : Int, e = .returned (.int .i64 r) ∧ (r = -1 ∨ (0 ≤ r ∧ r ≤ 1048576 ∧ SmallB c))) ∧ Below w.heap.size w w' := by
  have ul := Try.underlying48
  have um := Try.underlying25
  have hA0 : At (w.alloc (.cells #[.slice B.pa B.pl B.pc, .slice B.ta B.tl B.tc, .slice B.sa B.sl B.sc, .float .f32 B.film, .float .f32 B.bend, .slice B.wa B.wl B.wc, .float .f32 B.x, .float .f32 B.y, .float .f32 B.z] 48)) w.heap.size B.l := At.new
  have hB0 := (Below.refl w.heap.size w).alloc (Nat.le_refl _) (.cells #[.slice B.pa B.pl B.pc, .slice B.ta B.tl B.tc, .slice B.sa B.sl B.sc, .float .f32 B.film, .float .f32 B.bend, .slice B.wa B.wl B.wc, .float .f32 B.x, .float .f32 B.y, .float .f32 B.z] 48)
  have H0 := Lib.hid (h.below hB0)
  have hsm : B.sl ≤ 9223372036854775807 := by have h1 := h.2.2.1.2.1; have h2 := h.2.2.1.2.2.1; unfold maxLen at h2; omega
  have hwm : B.wl ≤ 9223372036854775807 := by have h1 := h.2.2.2.1.2.1; have h2 := h.2.2.2.1.2.2.1; unfold maxLen at h2; omega
  have L := Lib.hid (And.intro h.1.1 (And.intro h.2.1.1 (And.intro h.2.2.1.1 h.2.2.2.1.1)))
  have HA0 := Lib.hid hA0
  have HB0 := Lib.hid hB0
  clear hA0 hB0 h
  go_enter Try.func24, Try.ntmps24
  go_wp2_with fail
  generalize (w.alloc (.cells #[.slice B.pa B.pl B.pc, .slice B.ta B.tl B.tc, .slice B.sa B.sl B.sc, .float .f32 B.film, .float .f32 B.bend, .slice B.wa B.wl B.wc, .float .f32 B.x, .float .f32 B.y, .float .f32 B.z] 48)) = W at *
  refine (laws_szMesh' _ _ _ _ _ _ _ _ _ _ H0.out.1 H0.out.2.1 h0 h1).mono ?_
  rintro e w1 ⟨⟨r, rfl, hr⟩, hB1⟩
  have hA1 := HA0.out.below hB1
  have k2 := hA1 2 _ rfl
  have k5 := hA1 5 _ rfl
  have HB1 := Lib.hid (HB0.out.trans (hB1.mono HB0.out.size))
  clear hA1 hB1
  rcases hr with rfl | ⟨r0, r1, s1, s2, s3⟩
  · go_wp2
    go_ret
    exact ⟨⟨-1, rfl, .inl rfl⟩, HB1.out⟩
  · have HS3 := Lib.hid s3
    clear s3
    go_wp2_with (go_at_call 80; refine (laws_szSpringS _ _ _ _ _ r0 r1 hsm).mono ?_; rintro e w2 ⟨⟨q, rfl, hq⟩, hw2⟩; rw [hw2]; clear hw2 w2; rcases hq with rfl | ⟨q0, q1, q2⟩)
    · go_ret
      exact ⟨⟨-1, rfl, .inl rfl⟩, HB1.out⟩
    · go_wp2_with (go_at_call 81; refine (laws_szFloat32S _ _ _ _ _ q0 q1 hwm).mono ?_; rintro e w2 ⟨⟨p, rfl, hp⟩, hw2⟩; rw [hw2]; clear hw2 w2; rcases hp with rfl | ⟨p0, p1, p2⟩)
      · go_ret
        exact ⟨⟨-1, rfl, .inl rfl⟩, HB1.out⟩
      · go_wp2
        go_ret
        exact ⟨⟨p, rfl, .inr ⟨p0, p1, ⟨by rw [L.out.1]; exact s1, by rw [L.out.2.1]; exact s2, by rw [L.out.2.1]; exact HS3.out⟩, by rw [L.out.2.2.1]; exact q2, by rw [L.out.2.2.2]; exact p2⟩⟩, HB1.out⟩
theorem laws_szBody (B : Bd) (c : Bc) (left : Int) (w : World) (h : IsB w B c) (h0 : 0 ≤ left) (h1 : left ≤ 1048576) :
    Calls Try.prog 24 #[B.v, .int .i64 left] w fun e w' => (∃ r : Int, e = .returned (.int .i64 r) ∧ (r = -1 ∨ (0 ≤ r ∧ SmallB c))) ∧ Below w.heap.size w w' :=
  (laws_szBody' B c left w h h0 h1).mono fun _ _ ⟨⟨r, he, hr⟩, hb⟩ => ⟨⟨r, he, hr.imp id fun h => ⟨h.1, h.2.2⟩⟩, hb⟩
theorem eqMesh' (pa ta pa' ta' : Option Addr) (pl pl' pc tl tl' tc pc' tc' : Nat) (cs : List C3) (ts : List (List Int)) (w : World) (hp : IsVs w pa pl pc cs) (ht : IsTs w ta tl tc ts) (hp' : IsVs w pa' pl' pc' cs) (ht' : IsTs w ta' tl' tc' ts) :
    Calls Try.prog 20 #[.agg #[.slice pa pl pc, .slice ta tl tc], .agg #[.slice pa' pl' pc', .slice ta' tl' tc']] w fun e w' => e = .returned (.bool true) ∧ Below w.heap.size w w' := by
  obtain rfl := hp'.1.symm.trans hp.1
  obtain rfl := ht'.1.symm.trans ht.1
  exact laws_eqMesh _ _ _ _ _ _ _ _ _ _ cs ts w hp ht hp' ht'
theorem eqSpringS' (a b : Option Addr) (len len' cap cap' : Nat) (ss : List SC) (w : World) (ha : IsSs w a len cap ss) (hb : IsSs w b len' cap' ss) :
    Calls Try.prog 76 #[.slice a len cap, .slice b len' cap'] w fun e w' => e = .returned (.bool true) ∧ Below w.heap.size w w' := by
  obtain rfl := hb.1.symm.trans ha.1
  exact laws_eqSpringS _ _ _ _ _ ss w ha hb
theorem eqFloat32S' (a b : Option Addr) (len len' cap cap' : Nat) (zs : List Nat) (w : World) (ha : IsFs .f32 w a len cap zs) (hb : IsFs .f32 w b len' cap' zs) (hl : zs.length ≤ 1048576) :
    Calls Try.prog 67 #[.slice a len cap, .slice b len' cap'] w fun e w' => e = .returned (.bool true) ∧ ∃ n, w' = w.drewN n := by
  obtain rfl := hb.1.symm.trans ha.1
  exact laws_eqFloat32S _ _ _ _ _ zs w ha hb (by rw [← hb.1]; exact hl)
set_option maxHeartbeats 1000000 in
theorem laws_eqBody (B B' : Bd) (c : Bc) (w : World) (h : IsB w B c) (h' : IsB w B' c) (hs : SmallB c) :
    Calls Try.prog 19 #[B.v, B'.v] w fun e w' => e = .returned (.bool true) ∧ Below w.heap.size w w' := by
  have ui := Try.underlying36
  have um := Try.underlying29
  have uv := Try.underlying34
  have u := Try.underlying31
  have u' := Try.underlying80
  have a0 : At ((w.alloc (.cells #[.slice B.pa B.pl B.pc, .slice B.ta B.tl B.tc, .slice B.sa B.sl B.sc, .float .f32 B.film, .float .f32 B.bend, .slice B.wa B.wl B.wc, .float .f32 B.x, .float .f32 B.y, .float .f32 B.z] 36)).alloc (.cells #[.slice B'.pa B'.pl B'.pc, .slice B'.ta B'.tl B'.tc, .slice B'.sa B'.sl B'.sc, .float .f32 B'.film, .float .f32 B'.bend, .slice B'.wa B'.wl B'.wc, .float .f32 B'.x, .float .f32 B'.y, .float .f32 B'.z] 36)) w.heap.size B.l := At.new.alloc
  have a1 : At ((w.alloc (.cells #[.slice B.pa B.pl B.pc, .slice B.ta B.tl B.tc, .slice B.sa B.sl B.sc, .float .f32 B.film, .float .f32 B.bend, .slice B.wa B.wl B.wc, .float .f32 B.x, .float .f32 B.y, .float .f32 B.z] 36)).alloc (.cells #[.slice B'.pa B'.pl B'.pc, .slice B'.ta B'.tl B'.tc, .slice B'.sa B'.sl B'.sc, .float .f32 B'.film, .float .f32 B'.bend, .slice B'.wa B'.wl B'.wc, .float .f32 B'.x, .float .f32 B'.y, .float .f32 B'.z] 36)) (w.heap.size + 1) B'.l := by
    have := At.new (w := w.alloc (.cells #[.slice B.pa B.pl B.pc, .slice B.ta B.tl B.tc, .slice B.sa B.sl B.sc, .float .f32 B.film, .float .f32 B.bend, .slice B.wa B.wl B.wc, .float .f32 B.x, .float .f32 B.y, .float .f32 B.z] 36)) (vs := B'.l) (t := 36)
    simpa using this
  have b0 := ((Below.refl w.heap.size w).alloc (Nat.le_refl _) (.cells #[.slice B.pa B.pl B.pc, .slice B.ta B.tl B.tc, .slice B.sa B.sl B.sc, .float .f32 B.film, .float .f32 B.bend, .slice B.wa B.wl B.wc, .float .f32 B.x, .float .f32 B.y, .float .f32 B.z] 36)).alloc (by simp) (.cells #[.slice B'.pa B'.pl B'.pc, .slice B'.ta B'.tl B'.tc, .slice B'.sa B'.sl B'.sc, .float .f32 B'.film, .float .f32 B'.bend, .slice B'.wa B'.wl B'.wc, .float .f32 B'.x, .float .f32 B'.y, .float .f32 B'.z] 36)
  have H := Lib.hid (h.below b0)
  have H' := Lib.hid (h'.below b0)
  have HS := Lib.hid hs
  have A0 := Lib.hid a0
  have A1 := Lib.hid a1
  have B0 := Lib.hid b0
  clear h h' hs a0 a1 b0
  go_enter Try.func19, Try.ntmps19
  go_wp2_with fail
  generalize ((w.alloc (.cells #[.slice B.pa B.pl B.pc, .slice B.ta B.tl B.tc, .slice B.sa B.sl B.sc, .float .f32 B.film, .float .f32 B.bend, .slice B.wa B.wl B.wc, .float .f32 B.x, .float .f32 B.y, .float .f32 B.z] 36)).alloc (.cells #[.slice B'.pa B'.pl B'.pc, .slice B'.ta B'.tl B'.tc, .slice B'.sa B'.sl B'.sc, .float .f32 B'.film, .float .f32 B'.bend, .slice B'.wa B'.wl B'.wc, .float .f32 B'.x, .float .f32 B'.y, .float .f32 B'.z] 36)) = W at *
  refine (eqMesh' _ _ _ _ _ _ _ _ _ _ _ _ c.cs c.ts _ H.out.1 H.out.2.1 H'.out.1 H'.out.2.1).mono ?_
  rintro e w1 ⟨rfl, hB1⟩
  have k2 := A0.out.below hB1 2 _ rfl
  have j2 := A1.out.below hB1 2 _ rfl
  have A2 := Lib.hid (A0.out.below hB1)
  have A3 := Lib.hid (A1.out.below hB1)
  have H1 := Lib.hid (H.out.below hB1)
  have H1' := Lib.hid (H'.out.below hB1)
  have B1 := Lib.hid (B0.out.trans (hB1.mono B0.out.size))
  clear hB1
  go_wp2_with fail
  refine (eqSpringS' _ _ _ _ _ _ c.ss _ H1.out.2.2.1 H1'.out.2.2.1).mono ?_
  rintro e w2 ⟨rfl, hB2⟩
  clear k2 j2
  have k3 := A2.out.below hB2 3 _ rfl
  have j3 := A3.out.below hB2 3 _ rfl
  have k4 := A2.out.below hB2 4 _ rfl
  have j4 := A3.out.below hB2 4 _ rfl
  have k5 := A2.out.below hB2 5 _ rfl
  have j5 := A3.out.below hB2 5 _ rfl
  have k6 := A2.out.below hB2 6 _ rfl
  have j6 := A3.out.below hB2 6 _ rfl
  have k7 := A2.out.below hB2 7 _ rfl
  have j7 := A3.out.below hB2 7 _ rfl
  have k8 := A2.out.below hB2 8 _ rfl
  have j8 := A3.out.below hB2 8 _ rfl
  have H2 := Lib.hid (H1.out.below hB2)
  have H2' := Lib.hid (H1'.out.below hB2)
  have B2 := Lib.hid (B1.out.trans (hB2.mono B1.out.size))
  clear hB2
  go_wp2_with fail
  refine (laws_sameFloat _ _ _ _ (FV_wR H2.out.2.2.2.2.1) (FV_wR H2'.out.2.2.2.2.1)).mono ?_
  rintro en w3 ⟨rfl, n1, hw3⟩
  have B3 : RowKit.Hid (Below w.heap.size w w3) := Lib.hid (by rw [hw3]; exact below_drewN (below_drewN B2.out _) _)
  have cc : ∀ a v, w2.cell? a = some v → w3.cell? a = some v := by rw [hw3]; exact fun a v h => h
  replace k4 := cc _ _ k4
  replace j4 := cc _ _ j4
  replace k5 := cc _ _ k5
  replace j5 := cc _ _ j5
  replace k6 := cc _ _ k6
  replace j6 := cc _ _ j6
  replace k7 := cc _ _ k7
  replace j7 := cc _ _ j7
  replace k8 := cc _ _ k8
  replace j8 := cc _ _ j8
  have W3 : RowKit.Hid (IsFs .f32 w3 B.wa B.wl B.wc c.zs ∧ IsFs .f32 w3 B'.wa B'.wl B'.wc c.zs) := Lib.hid (by rw [hw3]; exact ⟨H2.out.2.2.2.1, H2'.out.2.2.2.1⟩)
  clear cc hw3 k3 j3
  go_wp2_with fail
  refine (laws_sameFloat _ _ _ _ (FV_wR H2.out.2.2.2.2.2.1) (FV_wR H2'.out.2.2.2.2.2.1)).mono ?_
  rintro en w4 ⟨rfl, n2, hw4⟩
  have B4 : RowKit.Hid (Below w.heap.size w w4) := Lib.hid (by rw [hw4]; exact below_drewN (below_drewN B3.out _) _)
  have cc : ∀ a v, w3.cell? a = some v → w4.cell? a = some v := by rw [hw4]; exact fun a v h => h
  replace k5 := cc _ _ k5
  replace j5 := cc _ _ j5
  replace k6 := cc _ _ k6
  replace j6 := cc _ _ j6
  replace k7 := cc _ _ k7
  replace j7 := cc _ _ j7
  replace k8 := cc _ _ k8
  replace j8 := cc _ _ j8
  have W4 : RowKit.Hid (IsFs .f32 w4 B.wa B.wl B.wc c.zs ∧ IsFs .f32 w4 B'.wa B'.wl B'.wc c.zs) := Lib.hid (by rw [hw4]; exact W3.out)
  clear cc hw4 k4 j4
  go_wp2_with fail
  refine (eqFloat32S' _ _ _ _ _ _ c.zs _ W4.out.1 W4.out.2 HS.out.2.2).mono ?_
  rintro en w5 ⟨rfl, n3, hw5⟩
  have B5 : RowKit.Hid (Below w.heap.size w w5) := Lib.hid (by rw [hw5]; exact below_drewN B4.out _)
  have cc : ∀ a v, w4.cell? a = some v → w5.cell? a = some v := by rw [hw5]; exact fun a v h => h
  replace k6 := cc _ _ k6
  replace j6 := cc _ _ j6
  replace k7 := cc _ _ k7
  replace j7 := cc _ _ j7
  replace k8 := cc _ _ k8
  replace j8 := cc _ _ j8
  clear cc hw5 k5 j5
  go_wp2_with fail
  refine (laws_eqVector _ _ _ _ _ _ _ _ _ _ H2.out.2.2.2.2.2.2.1 H2.out.2.2.2.2.2.2.2.1 H2.out.2.2.2.2.2.2.2.2 H2'.out.2.2.2.2.2.2.1 H2'.out.2.2.2.2.2.2.2.1 H2'.out.2.2.2.2.2.2.2.2).mono ?_
  rintro en w6 ⟨rfl, hB6⟩
  have B6 := Lib.hid (B5.out.trans (hB6.mono B5.out.size))
  clear hB6
  go_wp2
  go_ret
  exact ⟨rfl, B6.out⟩
end Go.Proofs.Ytmbekamnogbgaaa


/-
A region whose order is open, with a narrow place: an operation before or behind which every other one comes (an append), and a store that comes last. Conditions: no operation is guarded, every edge leads to an earlier operation, no slot is written twice, the store comes last.
-/
namespace Go.Proofs.Ytmbekamnogbgaaa
namespace Reg5
open Go Reg
set_option linter.unusedVariables false
section
variable {P : Program} {ops : Array Oper} {Q : Exit → Act → World → Prop} {md : Region.Mode}
/-- Operation m is a narrow place: what is before it comes before it, what is behind it comes behind it. -/
def narrow (ops : Array Oper) (m : Nat) : Bool :=
  decide (m < ops.size) && ((List.range m).all fun i => (List.range (m + 1)).any fun j => decide (i < j) && behind ops i j) && ((List.range ops.size).all fun i => decide (i ≤ m) || behind ops m i)
theorem narrow_lt {ops : Array Oper} {m : Nat} (h : narrow ops m = true) : m < ops.size := by
  unfold narrow at h; simp only [Bool.and_eq_true, decide_eq_true_eq] at h; exact h.1.1
theorem narrow_up {ops : Array Oper} {m i : Nat} (h : narrow ops m = true) (hi : i < ops.size) (hm : m < i) : behind ops m i = true := by
  unfold narrow at h; simp only [Bool.and_eq_true] at h
  have := List.all_eq_true.1 h.2 i (List.mem_range.2 hi)
  have hn : ¬ i ≤ m := by omega
  simpa [hn] using this
theorem below_m {ops : Array Oper} {m : Nat} {L : Array Bool} (h : narrow ops m = true) (hcl : ∀ i j, L.getD j false = true → behind ops i j = true → L.getD i false = true) (hm : L.getD m false = true) :
    ∀ d i, m - i = d → i ≤ m → L.getD i false = true := by
  intro d
  induction d using Nat.strongRecOn with
  | ind d ih =>
    intro i hd hi
    by_cases e : i = m
    · rw [e]; exact hm
    · have hlt : i < m := by omega
      have h' := h
      unfold narrow at h'; simp only [Bool.and_eq_true] at h'
      have := List.all_eq_true.1 h'.1.2 i (List.mem_range.2 hlt)
      rw [List.any_eq_true] at this
      obtain ⟨j, hj, hb⟩ := this
      rw [Bool.and_eq_true, decide_eq_true_eq] at hb
      have hjm := List.mem_range.1 hj
      exact hcl i j (ih (m - j) (by omega) j rfl (by omega)) hb.2
/-- What is asked of operation i: before the narrow place with C, behind it with D. -/
def Obl (P : Program) (ops : Array Oper) (m : Nat) (a0 : Act) (C D : World → Prop) (G G' : World → World → Prop) (R : Nat → Value → World → Prop) (T : Nat → Act → World → Prop) (Q : Exit → Act → World → Prop) (i : Nat) (o : Oper) : Prop :=
  ∀ a w, (i ≤ m → C w) → (m < i → D w) → (∀ t, ((List.range ops.size).all fun j => slotOf ops j != some t || behind ops i j) = true → a.eval (.tmp t) = a0.eval (.tmp t)) →
    (∀ j, behind ops j i = true → (i ≤ m ∨ m ≤ j) → Has ops R j a w) →
    o.wp P a w (fun a' w' => ∃ v, a' = a.put o.dst v ∧ (o.dst ≠ none → R i v w') ∧ (o.dst = none → T i a w') ∧ (i < m → C w' ∧ G w w') ∧ (m ≤ i → o.dst ≠ none → D w') ∧ (m < i → o.dst ≠ none → G' w w')) Q
def OblAll (P : Program) (ops : Array Oper) (m : Nat) (a0 : Act) (C D : World → Prop) (G G' : World → World → Prop) (R : Nat → Value → World → Prop) (T : Nat → Act → World → Prop) (Q : Exit → Act → World → Prop) : Nat → List Oper → Prop
  | _, [] => True
  | i, o :: l => Obl P ops m a0 C D G G' R T Q i o ∧ OblAll P ops m a0 C D G G' R T Q (i + 1) l
theorem OblAll.get {m : Nat} {a0 : Act} {C D : World → Prop} {G G' : World → World → Prop} {R : Nat → Value → World → Prop} {T : Nat → Act → World → Prop} :
    ∀ {l : List Oper} {k : Nat}, OblAll P ops m a0 C D G G' R T Q k l → ∀ {i : Nat} {o : Oper}, l[i]? = some o → Obl P ops m a0 C D G G' R T Q (k + i) o
  | [], _, _, _, _, h => by simp at h
  | _ :: _, _, h, 0, _, ho => by simp at ho; subst ho; exact h.1
  | _ :: l, k, h, i + 1, _, ho => by
    have := OblAll.get h.2 (i := i) (by simpa using ho)
    rwa [Nat.add_assoc, Nat.add_comm 1 i] at this

section
variable {m : Nat} {a0 : Act} {C D : World → Prop} {G G' : World → World → Prop} {R : Nat → Value → World → Prop} {T : Nat → Act → World → Prop} {i : Nat} {o : Oper}
theorem Obl.early (hi : decide (i < m) = true) (hn : o.dst.isSome = true)
    (h : ∀ a w, C w → (∀ t, ((List.range ops.size).all fun j => slotOf ops j != some t || behind ops i j) = true → a.eval (.tmp t) = a0.eval (.tmp t)) →
      (∀ j, behind ops j i = true → Has ops R j a w) → ∀ K : Act → World → Prop, (∀ v w', R i v w' → C w' → G w w' → K (a.put o.dst v) w') → o.wp P a w K Q) : Obl P ops m a0 C D G G' R T Q i o := by
  have hi' := of_decide_eq_true hi
  intro a w hC _ he hd
  refine h a w (hC (by omega)) he (fun j hj => hd j hj (.inl (by omega))) _ fun v w' h1 h2 h3 => ⟨v, rfl, fun _ => h1, fun e => ?_, fun _ => ⟨h2, h3⟩, fun hm => ?_, fun hm => ?_⟩
  · rw [e] at hn; cases hn
  · omega
  · omega
theorem Obl.mid (hi : decide (i = m) = true) (hn : o.dst.isSome = true)
    (h : ∀ a w, C w → (∀ t, ((List.range ops.size).all fun j => slotOf ops j != some t || behind ops i j) = true → a.eval (.tmp t) = a0.eval (.tmp t)) →
      (∀ j, behind ops j i = true → Has ops R j a w) → ∀ K : Act → World → Prop, (∀ v w', R i v w' → D w' → K (a.put o.dst v) w') → o.wp P a w K Q) : Obl P ops m a0 C D G G' R T Q i o := by
  have hi' := of_decide_eq_true hi
  intro a w hC _ he hd
  refine h a w (hC (by omega)) he (fun j hj => hd j hj (.inl (by omega))) _ fun v w' h1 h2 => ⟨v, rfl, fun _ => h1, fun e => ?_, fun hm => ?_, fun _ _ => h2, fun hm => ?_⟩
  · rw [e] at hn; cases hn
  · omega
  · omega
theorem Obl.late (hi : decide (m < i) = true)
    (h : ∀ a w, D w → (∀ t, ((List.range ops.size).all fun j => slotOf ops j != some t || behind ops i j) = true → a.eval (.tmp t) = a0.eval (.tmp t)) →
      (∀ j, behind ops j i = true → m ≤ j → Has ops R j a w) → ∀ K : Act → World → Prop, (∀ v w', (o.dst ≠ none → R i v w') → (o.dst = none → T i a w') → (o.dst ≠ none → D w') → (o.dst ≠ none → G' w w') → K (a.put o.dst v) w') → o.wp P a w K Q) : Obl P ops m a0 C D G G' R T Q i o := by
  have hi' := of_decide_eq_true hi
  intro a w _ hD he hd
  refine h a w (hD (by omega)) he (fun j hj hm => hd j hj (.inr hm)) _ fun v w' h1 h2 h3 h4 => ⟨v, rfl, h1, h2, fun hm => ?_, fun _ => h3, fun _ => h4⟩
  omega
end

theorem wp_region_inv {id m : Nat} {a0 : Act} {w0 : World} {C D : World → Prop} {G G' : World → World → Prop} {R : Nat → Value → World → Prop} {T : Nat → Act → World → Prop} (hm : P.follows .mixedOrders = true) (ht : tidy ops a0.tmps.size = true) (hnar : narrow ops m = true)
    (hG : ∀ j v w w', j < m → C w → G w w' → R j v w → R j v w') (hG' : ∀ j v w w', m ≤ j → D w → G' w w' → R j v w → R j v w') (hC : C { w0 with drawn := w0.drawn + 1 })
    (hO : OblAll P ops m a0 C D G G' R T Q 0 ops.toList)
    (hQ : ∀ a w, a.defers = a0.defers → a.tmps.size = a0.tmps.size → (∀ t, (ops.all fun o => o.dst != some t) = true → a.eval (.tmp t) = a0.eval (.tmp t)) → ((∀ j, j < ops.size → slotOf ops j ≠ none) → D w ∧ ∀ j, m ≤ j → j < ops.size → Has ops R j a w) → (∀ j, HasT ops T j a w) → Q .normal a w) :
    (Code.region id ops true).wp P Q a0 w0 := by
  unfold tidy at ht
  simp only [Bool.and_eq_true] at ht
  obtain ⟨⟨⟨⟨hlow, hgd⟩, hbd⟩, hdis⟩, hlast⟩ := ht
  have slot_lt : ∀ {j d}, slotOf ops j = some d → j < ops.size := fun {j d} h => by
    unfold slotOf at h
    cases ho : ops[j]? with
    | none => rw [ho] at h; cases h
    | some o => exact (Array.getElem?_eq_some_iff.1 ho).1
  have slot_bd : ∀ {j d}, slotOf ops j = some d → d < a0.tmps.size := fun {j d} h => by
    have hj := slot_lt h
    have := Array.all_eq_true.1 hbd j hj
    unfold slotOf at h
    rw [Array.getElem?_eq_getElem hj] at h
    simp only [Option.bind_some] at h
    rw [h] at this
    simpa using this
  have slot_ne : ∀ {i j d}, slotOf ops i = some d → slotOf ops j = some d → i = j := fun {i j d} h1 h2 => by
    have a1 := slot_lt h1
    have a2 := slot_lt h2
    have := List.all_eq_true.1 (List.all_eq_true.1 hdis i (List.mem_range.2 a1)) j (List.mem_range.2 a2)
    rw [h1, h2] at this
    simpa using this
  let Inv : Array Bool → Act → World → Prop := fun listed a w => ((∀ j, j < ops.size → slotOf ops j = none → listed.getD j false = false) → (listed.getD m false = false → C w) ∧ (listed.getD m false = true → D w) ∧ ∀ j, listed.getD j false = true → (listed.getD m false = false ∨ m ≤ j) → Has ops R j a w) ∧ a.defers = a0.defers ∧ a.tmps.size = a0.tmps.size ∧
    (∀ t, (∀ j, slotOf ops j = some t → listed.getD j false = false) → a.eval (.tmp t) = a0.eval (.tmp t)) ∧
    (∀ i j, listed.getD j false = true → behind ops i j = true → listed.getD i false = true) ∧ (∀ j, listed.getD j false = true → HasT ops T j a w)
  refine wp_region_any hm (wpAny_inv (Inv := Inv) hlow ?_ ?_ _ _ _ _ (by simp) (by simp) ⟨fun _ => ⟨fun _ => hC, fun h => ?_, fun j hj => ?_⟩, rfl, rfl, fun _ _ => rfl, ?_, ?_⟩)
  · intro i listed a w hs hi ⟨hCw0, hd, hsz, hext, hcl, hT⟩
    obtain ⟨hun, o, ho, hdeps⟩ := mem_ready.1 hi
    have hilt : i < ops.size := (Array.getElem?_eq_some_iff.1 ho).1
    have hun' : listed.getD i false = false := by
      have : i < listed.size := by omega
      simp [this] at hun ⊢; exact hun
    have hg : o.guard = none := by
      have := Array.all_eq_true.1 hgd i hilt
      rw [Array.getElem?_eq_getElem hilt] at ho
      cases ho
      simpa using this
    have hno : ∀ j, j < ops.size → slotOf ops j = none → listed.getD j false = false := fun j hlt hn => by
      cases hl : listed.getD j false
      · rfl
      · exfalso
        have h1 := List.all_eq_true.1 hlast j (List.mem_range.2 hlt)
        rw [hn] at h1
        simp only [bne_self_eq_false, Bool.false_or] at h1
        have h2 := List.all_eq_true.1 h1 i (List.mem_range.2 hilt)
        have hne : i ≠ j := fun e => by subst e; rw [hun'] at hl; cases hl
        simp [hne] at h2
        have := hcl i j hl h2
        rw [hun'] at this; cases this
    obtain ⟨hC1, hD1, hhas⟩ := hCw0 hno
    have side1 : i ≤ m → listed.getD m false = false := fun him => by
      cases hl : listed.getD m false
      · rfl
      · have := below_m hnar hcl hl _ i rfl him; rw [hun'] at this; cases this
    have lstd : ∀ j, behind ops j i = true → listed.getD j false = true := fun j hj => by
      obtain ⟨e, he, h1, h2⟩ := behind_spec hj ho
      rw [← h1]
      exact hdeps e he h2
    have side2 : m < i → listed.getD m false = true := fun him => lstd m (narrow_up hnar hilt him)
    have hmlt := narrow_lt hnar
    have hob := OblAll.get hO (i := i) (o := o) (by simpa using ho)
    rw [Nat.zero_add] at hob
    have hwp := hob a w (fun h => hC1 (side1 h)) (fun h => hD1 (side2 h)) (fun t htt => hext t fun j hj => by
        have := List.all_eq_true.1 htt j (List.mem_range.2 (slot_lt hj))
        rw [hj] at this
        simp at this
        cases hl : listed.getD j false
        · rfl
        · have := hcl i j hl this; rw [hun'] at this; cases this)
      (fun j hj hm => hhas j (lstd j hj) (hm.imp side1 fun h => h))
    unfold wpOp
    rw [ho]
    simp only [Region.wanted, hg, if_true]
    refine .inl (Oper.wp_mono ?_ hwp)
    rintro a' w' ⟨v, rfl, hR, hTi, hCG, hD', hGw'⟩
    have hdst : slotOf ops i = o.dst := by unfold slotOf; rw [ho]; rfl
    have keep : ∀ t, o.dst ≠ some t → (a.put o.dst v).eval (.tmp t) = a.eval (.tmp t) := fun t h => Act.eval_put (fun d hd he => h (by rw [hd]; cases he; rfl))
    have lst : ∀ j, (listed.setIfInBounds i true).getD j false = true → j = i ∨ listed.getD j false = true := fun j h => by
      by_cases hji : i = j
      · exact .inl hji.symm
      · rw [getD_set_ne false hji] at h; exact .inr h
    have hli : i < listed.size := by omega
    have same : ∀ j, j ≠ i → (listed.setIfInBounds i true).getD j false = listed.getD j false := fun j h => getD_set_ne false (fun e => h e.symm)
    have hHasI : ∀ d, slotOf ops i = some d → R i ((a.put o.dst v).eval (.tmp d)) w' := fun d hjd => by
      rw [hdst] at hjd
      have hb := slot_bd (j := i) (by rw [hdst]; exact hjd)
      have : (a.put o.dst v).eval (.tmp d) = v := by
        unfold Act.put Act.eval; rw [hjd]; simp; exact fun h => absurd (Nat.lt_of_lt_of_le hb (hsz ▸ h)) (Nat.lt_irrefl _)
      rw [this]; exact hR (by rw [hjd]; simp)
    have keepHas : ∀ j, listed.getD j false = true → (∀ v', R j v' w → R j v' w') → Has ops R j a w → Has ops R j (a.put o.dst v) w' := fun j hj' hup hhj d hjd => by
      rw [keep d (fun h => by
        have := slot_ne (show slotOf ops i = some d by rw [hdst]; exact h) hjd
        subst this; rw [hun'] at hj'; cases hj')]
      exact hup _ (hhj d hjd)
    refine ⟨fun hno' => ?_, ?_, ?_, ?_, ?_, ?_⟩
    · have hne : o.dst ≠ none := fun hn => by
        have := hno' i hilt (by rw [hdst]; exact hn)
        simp [hli] at this
      rcases Nat.lt_trichotomy i m with him | him | him
      · have hm0 := side1 (Nat.le_of_lt him)
        have hsm := same m (by omega)
        obtain ⟨hC', hGw⟩ := hCG him
        refine ⟨fun _ => hC', fun h => ?_, fun j hj hjm => ?_⟩
        · rw [hsm, hm0] at h; cases h
        · rcases lst j hj with rfl | hj'
          · exact fun d hjd => hHasI d hjd
          · have hjlt : j < m := by
              rcases Nat.lt_or_ge j m with h | h
              · exact h
              · exfalso
                rcases Nat.eq_or_lt_of_le h with e | e
                · rw [← e, hm0] at hj'; cases hj'
                · by_cases hjs : j < ops.size
                  · have := hcl m j hj' (narrow_up hnar hjs e); rw [hm0] at this; cases this
                  · have : ¬ j < listed.size := by omega
                    simp [this] at hj'
            exact keepHas j hj' (fun v' => hG j v' _ _ hjlt (hC1 hm0) hGw) (hhas j hj' (.inl hm0))
      · subst him
        refine ⟨fun h => ?_, fun _ => hD' (Nat.le_refl _) hne, fun j hj hjm => ?_⟩
        · simp [hli] at h
        · rcases lst j hj with rfl | hj'
          · exact fun d hjd => hHasI d hjd
          · exfalso
            have hm0 := side1 (Nat.le_refl _)
            have hjge : i ≤ j := by
              rcases hjm with h | h
              · simp [hli] at h
              · exact h
            rcases Nat.eq_or_lt_of_le hjge with e | e
            · rw [← e, hm0] at hj'; cases hj'
            · by_cases hjs : j < ops.size
              · have := hcl i j hj' (narrow_up hnar hjs e); rw [hm0] at this; cases this
              · have : ¬ j < listed.size := by omega
                simp [this] at hj'
      · have hm1 := side2 him
        have hsm := same m (by omega)
        refine ⟨fun h => ?_, fun _ => hD' (Nat.le_of_lt him) hne, fun j hj hjm => ?_⟩
        · rw [hsm, hm1] at h; cases h
        · rcases lst j hj with rfl | hj'
          · exact fun d hjd => hHasI d hjd
          · have hjge : m ≤ j := by
              rcases hjm with h | h
              · rw [hsm, hm1] at h; cases h
              · exact h
            exact keepHas j hj' (fun v' => hG' j v' _ _ hjge (hD1 hm1) (hGw' him hne)) (hhas j hj' (.inr hjge))
    · rw [← hd]; unfold Act.put; split <;> rfl
    · rw [← hsz]; unfold Act.put; split <;> simp
    · intro t htt
      rw [keep t (fun h => by
        have := htt i (by rw [hdst]; exact h)
        have hlt : i < listed.size := by omega
        simp [hlt] at this)]
      refine hext t fun j hj => ?_
      have := htt j hj
      cases hl : listed.getD j false
      · rfl
      · rw [getD_set_true hl] at this; cases this
    · intro i' j hj hb
      rcases lst j hj with rfl | hj'
      · refine getD_set_true ?_
        obtain ⟨e, he, h1, h2⟩ := behind_spec hb ho
        rw [← h1]; exact hdeps e he h2
      · exact getD_set_true (hcl i' j hj' hb)
    · intro j hj hn hlt
      rcases lst j hj with rfl | hj'
      · rw [hdst] at hn
        have : a.put o.dst v = a := by rw [hn]; rfl
        rw [this]; exact hTi hn
      · exfalso
        have h1 := List.all_eq_true.1 hlast j (List.mem_range.2 hlt)
        rw [hn] at h1
        simp only [bne_self_eq_false, Bool.false_or] at h1
        have h2 := List.all_eq_true.1 h1 i (List.mem_range.2 hilt)
        have hne : i ≠ j := fun e => by subst e; rw [hun'] at hj'; cases hj'
        simp [hne] at h2
        have := hcl i j hj' h2
        rw [hun'] at this; cases this
  · intro listed a w hall ⟨hCD, hd, hsz, hext, _, hT⟩
    refine hQ a w hd hsz (fun t htt => hext t fun j hj => ?_) (fun hns => ?_) (fun j hn hlt => hT j (hall j hlt) hn hlt)
    · exfalso
      have hlt := slot_lt hj
      have := Array.all_eq_true.1 htt j hlt
      unfold slotOf at hj
      rw [Array.getElem?_eq_getElem hlt] at hj
      simp only [Option.bind_some] at hj
      rw [hj] at this
      simp at this
    · obtain ⟨_, hD, hh⟩ := hCD fun j hlt hn => absurd hn (hns j hlt)
      exact ⟨hD (hall m (narrow_lt hnar)), fun j hm hj => hh j (hall j hj) (.inr hm)⟩
  · simp at h
    rw [Array.getElem?_replicate] at h; split at h <;> simp at h
  · simp at hj
    rw [Array.getElem?_replicate] at hj; split at hj <;> simp at hj
  · intro i j hj
    simp at hj
    rw [Array.getElem?_replicate] at hj; split at hj <;> simp at hj
  · intro j hj
    simp at hj
    rw [Array.getElem?_replicate] at hj; split at hj <;> simp at hj

theorem wp_region_mix {id m : Nat} {a0 : Act} {w0 : World} {C D : World → Prop} {G G' : World → World → Prop} {R : Nat → Value → World → Prop} {T : Nat → Act → World → Prop} (mk : List Bool) (hm : P.follows .mixedOrders = true) (ht : tidy ops a0.tmps.size = true) (hnar : narrow ops m = true)
    (hk : maskOk ops mk a0.tmps.size = true)
    (hG : ∀ j v w w', j < m → C w → G w w' → R j v w → R j v w') (hG' : ∀ j v w w', m ≤ j → D w → G' w w' → R j v w → R j v w') (hC : C { w0 with drawn := w0.drawn + 1 })
    (hO : OblAll P ops m a0 C D G G' R T Q 0 ops.toList)
    (hQ : ∀ (f : Nat → Value) w, ((∀ j, j < ops.size → slotOf ops j ≠ none) → D w ∧ ∀ j d, m ≤ j → slotOf ops j = some d → R j (f d) w) → (∀ j, HasT ops T j ⟨(mixL f mk 0 a0.tmps.toList).toArray, a0.defers⟩ w) → Q .normal ⟨(mixL f mk 0 a0.tmps.toList).toArray, a0.defers⟩ w) :
    (Code.region id ops true).wp P Q a0 w0 := by
  refine wp_region_inv hm ht hnar hG hG' hC hO fun a w hd hsz hext hhas hT => ?_
  unfold maskOk at hk
  simp only [Bool.and_eq_true, beq_iff_eq] at hk
  obtain ⟨hml, hmk⟩ := hk
  have e : a = ⟨(mixL (fun t => a.eval (.tmp t)) mk 0 a0.tmps.toList).toArray, a0.defers⟩ := by
    rw [mixL_eq _ _ _ _ (by simpa using hml) ?_]
    · cases a with
      | mk tmps defers =>
        simp only [Act.mk.injEq]
        refine ⟨?_, hd⟩
        apply Array.ext'
        apply List.ext_getElem?
        intro i
        simp only at hsz
        by_cases hi : i < tmps.size
        · have hi' : i < a0.tmps.size := by omega
          simp [hi, hi', Act.eval]
        · have hi' : ¬ i < a0.tmps.size := by omega
          simp [hi, hi']
    · intro i hi
      have hlt : i < a0.tmps.size := by
        have := (List.getElem?_eq_some_iff.1 hi).1; omega
      have h1 := List.all_eq_true.1 hmk i (List.mem_range.2 hlt)
      have h2 : mk.getD i false = false := by simp [List.getD, hi]
      rw [h2, Bool.false_or] at h1
      have h3 := hext i h1
      rw [Nat.zero_add, h3]
      simp [Act.eval, hlt]
  have h1 : (∀ j, j < ops.size → slotOf ops j ≠ none) → D w ∧ ∀ j d, m ≤ j → slotOf ops j = some d → R j ((fun t => a.eval (.tmp t)) d) w := fun hns => by
    obtain ⟨hD, hh⟩ := hhas hns
    refine ⟨hD, fun j d hm hj => hh j hm ?_ d hj⟩
    unfold slotOf at hj
    cases ho : ops[j]? with
    | none => rw [ho] at hj; cases hj
    | some o => exact (Array.getElem?_eq_some_iff.1 ho).1
  rw [e] at hT ⊢
  exact hQ (fun t => a.eval (.tmp t)) w h1 hT
end
end Reg5
end Go.Proofs.Ytmbekamnogbgaaa

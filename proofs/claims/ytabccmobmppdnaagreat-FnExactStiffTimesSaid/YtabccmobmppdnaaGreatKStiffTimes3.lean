/-
Texts in one: what StiffTimes stands on, part 3. Conditions: those of each.
-/
import Derived.Test.YtabccmobmppdnaaGreatKStiffTimes2
import Derived.Below
import Derived.LoopTactic
import Derived.IntWalk
import Derived.Laws.MakeOwn
-- halved
namespace Go.Proofs.YtabccmobmppdnaaGreat
open Go Fk Go.RowKit
set_option linter.unusedVariables false
set_option maxRecDepth 8000
def cur (zs : List Nat) (n k : Nat) : Array Value := ((zs.take k).map (fun z => Value.float .f32 z) ++ List.replicate (n - k) (Value.float .f32 0)).toArray
theorem cur_zero (zs : List Nat) (n : Nat) : cur zs n 0 = madeCells #[.float .f32 0] n := by
 unfold cur madeCells
 apply Array.ext'
 apply List.ext_getElem?
 intro i
 by_cases hi : i < n
 ·simp [hi, Nat.mod_one]
 ·simp [hi]
theorem cur_set (zs : List Nat) (n k : Nat) (hk : k < n) (hz : zs.length = n) : (cur zs n k).setIfInBounds k (.float .f32 (zs.getD k 0)) = cur zs n (k + 1) := by
 unfold cur
 apply Array.ext'
 rw [Array.toList_setIfInBounds]
 apply List.ext_getElem?
 intro i
 have hk' : k < zs.length := by omega
 have hl : ((zs.take k).map (fun z => Value.float .f32 z)).length = k := by simp; omega
 have hl' : ((zs.take (k + 1)).map (fun z => Value.float .f32 z)).length = k + 1 := by simp; omega
 rw [List.getElem?_set]
 by_cases hi : k = i
 ·subst hi
  rw [if_pos rfl, if_pos (by simp; omega), List.getElem?_append_left (by omega)]
  simp [hk']
 ·rw [if_neg hi]
  by_cases h1 : i < k
  ·rw [List.getElem?_append_left (by omega), List.getElem?_append_left (by omega)]
   simp [h1, show i < k + 1 by omega]
  ·rw [List.getElem?_append_right (by omega), List.getElem?_append_right (by omega), hl, hl', List.getElem?_replicate, List.getElem?_replicate]
   by_cases h2 : i < n
   ·rw [if_pos (by omega), if_pos (by omega)]
   ·rw [if_neg (by omega), if_neg (by omega)]
theorem cur_size (zs : List Nat) (n k : Nat) (hk : k ≤ n) (hz : zs.length = n) : (cur zs n k).size = n := by unfold cur; simp; omega
theorem cur_end (zs : List Nat) (n : Nat) (hz : zs.length = n) (i : Nat) (hi : i < n) : (cur zs n n)[i]? = some (.float .f32 (zs.getD i 0)) := by
 have hi' : i < zs.length := by omega
 have ht : zs.take n = zs := List.take_of_length_le (by omega)
 unfold cur
 rw [ht]
 simp [hi']
theorem addr_add (b o i : Nat) : (⟨b, o, none⟩ : Addr).add i = ⟨b, o + i, none⟩ := by
 unfold Addr.add
 split
 ·rename_i h; subst h; rfl
 ·rfl
theorem IsFs_below {W w : World} {a : Option Addr} {len cap : Nat} {zs : List Nat} (hb : Below W.heap.size W w) (h : IsFs .f32 W a len cap zs) : IsFs .f32 w a len cap zs := by
 obtain ⟨h1, h2, h3, h4, h5, h6⟩ := h
 refine ⟨h1, h2, h3, h4, h5, fun x hx i hi => ?_⟩
 have hc := h6 x hx i hi
 have hlt := World.block_lt_of_cell? W _ hc
 rw [hb.cell (p := x.add i) hlt]; exact hc
theorem IsFs_some {w : World} {a : Option Addr} {len cap : Nat} {zs : List Nat} (h : IsFs .f32 w a len cap zs) (hl : 0 < len) :
  ∃ b o, a = some ⟨b, o, none⟩ ∧ ∀ i, i < len → w.cell? ⟨b, o + i, none⟩ = some (.float .f32 (zs.getD i 0)) := by
 obtain ⟨h1, h2, h3, h4, h5, h6⟩ := h
 cases a with
 | none => have := (h5 rfl).1; omega
 | some x =>
  obtain ⟨b, o, spot⟩ := x
  have hc := h6 _ rfl 0 hl
  have hspot : spot = none := by simpa [Addr.add] using World.cell?_spot hc
  subst hspot
  exact ⟨b, o, rfl, fun i hi => by have := h6 _ rfl i hi; rwa [addr_add] at this⟩
theorem info32 : (Tryz.prog.info? 27).map (fun i => (i.zero, i.size, i.bytes)) = some (some (.float .f32 0), 1, 4) := by kernel_rfl
set_option maxHeartbeats 400000 in
theorem laws_toFloat32SO (a : Option Addr) (len cap : Nat) (zs : List Nat) (w : World) (h : IsFs .f32 w a len cap zs) (hlen : len ≤ 1048576) :
  Calls Tryz.prog 69 #[.slice a len cap] w fun e w' => e = .returned (.slice (some ⟨w.heap.size, 0, none⟩) len len) ∧ IsFs .f32 w' (some ⟨w.heap.size, 0, none⟩) len len zs ∧ Below w.heap.size w w' ∧ w.heap.size < w'.heap.size ∧ ∀ i, w'.frozen? ⟨w.heap.size, i, none⟩ = false := by
 obtain ⟨i0, hi, hz0, hz1, hz2⟩ := info_parts info32
 have hzl := h.1
 have hzb := h.2.2.2.1
 have hmk : (Instr.makeSlice 28 (.int .i64 len) (.int .i64 len)).run Tryz.prog w = .ok (.slice (some ⟨w.heap.size, 0, none⟩) len len) (w.alloc (.cells (cur zs len 0) 27)) := by
  have := run_make (P := Tryz.prog) w 28 27 i0 (.float .f32 0) Tryz.underlying28 hi hz0 .i64 .i64 len len (by omega) (Int.le_refl _) (by rw [hz2]; omega) (by omega)
  rw [this, hz1, cur_zero]; simp; rfl
 have hfin : IsFs .f32 (w.alloc (.cells (cur zs len len) 27)) (some ⟨w.heap.size, 0, none⟩) len len zs := by
  refine ⟨hzl, Nat.le_refl _, by unfold maxLen; omega, hzb, by simp, fun x hx i hi => ?_⟩
  cases hx
  have := cur_end zs len hzl i hi
  rw [addr_add, Nat.zero_add]; simp [this]
 have HF := Lib.hid hfin
 clear hfin hzb
 go_enter Tryz.func69, Tryz.ntmps69
 go_wp2
 go_loopw [4] (fun i w' => ∃ k : Nat, k ≤ len ∧ i = .int .i64 k ∧ w' = w.alloc (.cells (cur zs len k) 27)) (fun i _ => len - (intOf i).toNat)
 case atStart => exact ⟨0, Nat.zero_le _, rfl, rfl⟩
 case round =>
  obtain ⟨k, hk, rfl, rfl⟩ := hrel
  by_cases hlt : k < len
  ·obtain ⟨b, o, rfl, hcell⟩ := IsFs_some h (by omega)
   have hc0 := hcell k hlt
   have hblt := World.block_lt_of_cell? w _ hc0
   have hc : (w.alloc (.cells (cur zs len k) 27)).cell? ⟨b, o + k, none⟩ = some (.float .f32 (zs.getD k 0)) := by rw [World.cell?_alloc_lt (h := hblt)]; exact hc0
   have hsz := cur_size zs len k hk hzl
   have hd : (w.alloc (.cells (cur zs len k) 27)).cell? ⟨w.heap.size, k, none⟩ = some ((cur zs len k)[k]'(by omega)) := by simp [hsz, hlt]
   have hkz : k < zs.length := by omega
   have hset2 : (cur zs len k).setIfInBounds k (.float .f32 zs[k]) = cur zs len (k + 1) := by
    have := cur_set zs len k hlt hzl
    rw [show zs.getD k 0 = zs[k] by simp [List.getD, hkz]] at this; exact this
   have HS := Lib.hid hset2
   clear hset2 hcell hc0 hblt
   go_wp2
   go_roundw
   case rel => exact ⟨k + 1, by omega, by go_num, by rw [HS.out]⟩
   case measure => simp [intOf]; omega
  ·obtain rfl : k = len := by omega
   go_wp2
   go_ret
   exact ⟨rfl, HF.out, (Below.refl _ _).alloc (Nat.le_refl _) _, by simp, fun i => by simp⟩
theorem laws_toFloat32S' (a : Option Addr) (len cap : Nat) (zs : List Nat) (w : World) (h : IsFs .f32 w a len cap zs) (hlen : len ≤ 1048576) :
  Calls Tryz.prog 69 #[.slice a len cap] w fun e w' => e = .returned (.slice (some ⟨w.heap.size, 0, none⟩) len len) ∧ IsFs .f32 w' (some ⟨w.heap.size, 0, none⟩) len len zs ∧ Below w.heap.size w w' ∧ w.heap.size < w'.heap.size :=
 (laws_toFloat32SO a len cap zs w h hlen).mono fun _ _ h => ⟨h.1, h.2.1, h.2.2.1, h.2.2.2.1⟩
def isF64 (c : Option Nat) (v : Value) : Prop := ∃ r, v = .float .f64 r ∧ FV .f64 r c
set_option maxHeartbeats 1000000 in
theorem laws_eqFloat32S (a b : Option Addr) (len cap cap' : Nat) (zs : List Nat) (w : World) (ha : IsFs .f32 w a len cap zs) (hb : IsFs .f32 w b len cap' zs) (hlen : len ≤ 1048576) :
  Calls Tryz.prog 42 #[.slice a len cap, .slice b len cap'] w fun e w' => e = .returned (.bool true) ∧ ∃ n, w' = w.drewN n := by
 have u := Tryz.underlying27
 have u' := Tryz.underlying58
 have hzl := ha.1
 have hzb := ha.2.2.2.1
 go_enter Tryz.func42, Tryz.ntmps42
 go_wp2
 go_loopw [5] (fun i w' => ∃ k : Nat, k ≤ len ∧ i = .int .i64 k ∧ ∃ n, w' = w.drewN n) (fun i _ => len - (intOf i).toNat)
 case atStart => exact ⟨0, Nat.zero_le _, rfl, 0, rfl⟩
 case round =>
  obtain ⟨k, hk, rfl, n, rfl⟩ := hrel
  by_cases hlt : k < len
  ·obtain ⟨b1, o1, rfl, hcell1⟩ := IsFs_some ha (by omega)
   obtain ⟨b2, o2, rfl, hcell2⟩ := IsFs_some hb (by omega)
   have c1 := hcell1 k hlt
   have c2 := hcell2 k hlt
   have hz : zs.getD k 0 < 2 ^ FloatKind.f32.format.width := by
    have hkz : k < zs.length := by omega
    rw [show zs.getD k 0 = zs[k] by simp [List.getD, hkz]]; exact hzb _ (List.getElem_mem _)
   generalize zs.getD k 0 = z at *
   have hv := FV.self hz
   clear hcell1 hcell2 hz hzb hzl ha hb
   have hk0 : (0 : Int) ≤ (k : Int) := by omega
   have hk1 : (k : Int) < (len : Int) := by omega
   go_wp2_with fail
   refine Reg.wp_region_mix (C := fun w' => ∃ n, w' = w.drewN n) (G := fun _ _ => True) (R := fun i v _ => match i with | 0 => v = .slice (some ⟨b1, o1, none⟩) len cap | 1 => v = .int .i64 k | 2 => v = .pointer (some ⟨b1, o1 + k, none⟩) | 3 => v = .float .f32 z | 4 => isF64 ((cls .f32 z).map wid) v | 5 => v = .slice (some ⟨b2, o2, none⟩) len cap' | 6 => v = .int .i64 k | 7 => v = .pointer (some ⟨b2, o2 + k, none⟩) | 8 => v = .float .f32 z | 9 => isF64 ((cls .f32 z).map wid) v | 10 => v = .bool true | 11 => v = .bool false | _ => True) (T := fun _ _ _ => True) [false, false, false, false, false, false, false, false, false, false, false, false, false, false, false, false, false, true, true, true, true, true, true, true, true, true, true, true, true]
    (by kernel_rfl) (by kernel_rfl) (by kernel_rfl) (fun _ _ _ _ _ _ h => h) ⟨n + 1, rfl⟩ ?_ ?_
   ·refine ⟨Reg.Obl.mk ?_, Reg.Obl.mk ?_, Reg.Obl.mk ?_, Reg.Obl.mk ?_, Reg.Obl.mk ?_, Reg.Obl.mk ?_, Reg.Obl.mk ?_, Reg.Obl.mk ?_, Reg.Obl.mk ?_, Reg.Obl.mk ?_, Reg.Obl.mk ?_, Reg.Obl.mk ?_, trivial⟩
    ·rintro a w1 ⟨n1, rfl⟩ hx hd K hK
     have t0 : a.tmps[0]?.getD undef = .slice (some ⟨b1, o1, none⟩) len cap := Reg.slot_val (hx 0 (by kernel_rfl))
     go_simp
     exact hK _ _ (fun _ => rfl) (fun h => by cases h) ⟨_, rfl⟩ trivial
    ·rintro a w1 ⟨n1, rfl⟩ hx hd K hK
     have t5 : a.tmps[5]?.getD undef = .int .i64 k := Reg.slot_val (hx 5 (by kernel_rfl))
     go_simp
     exact hK _ _ (fun _ => rfl) (fun h => by cases h) ⟨_, rfl⟩ trivial
    ·rintro a w1 ⟨n1, rfl⟩ hx hd K hK
     have t17 : a.tmps[17]?.getD undef = .slice (some ⟨b1, o1, none⟩) len cap := Reg.slot_val (hd 0 (by kernel_rfl) 17 rfl)
     have t18 : a.tmps[18]?.getD undef = .int .i64 k := Reg.slot_val (hd 1 (by kernel_rfl) 18 rfl)
     go_simp
     exact hK _ _ (fun _ => rfl) (fun h => by cases h) ⟨_, rfl⟩ trivial
    ·rintro a w1 ⟨n1, rfl⟩ hx hd K hK
     have t19 : a.tmps[19]?.getD undef = .pointer (some ⟨b1, o1 + k, none⟩) := Reg.slot_val (hd 2 (by kernel_rfl) 19 rfl)
     go_simp
     exact hK _ _ (fun _ => rfl) (fun h => by cases h) ⟨_, rfl⟩ trivial
    ·rintro a w1 ⟨n1, rfl⟩ hx hd K hK
     have t20 : a.tmps[20]?.getD undef = .float .f32 z := Reg.slot_val (hd 3 (by kernel_rfl) 20 rfl)
     go_simp
     exact hK _ _ (fun _ => ⟨_, rfl, FV_wR hv⟩) (fun h => by cases h) ⟨_, rfl⟩ trivial
    ·rintro a w1 ⟨n1, rfl⟩ hx hd K hK
     have t1 : a.tmps[1]?.getD undef = .slice (some ⟨b2, o2, none⟩) len cap' := Reg.slot_val (hx 1 (by kernel_rfl))
     go_simp
     exact hK _ _ (fun _ => rfl) (fun h => by cases h) ⟨_, rfl⟩ trivial
    ·rintro a w1 ⟨n1, rfl⟩ hx hd K hK
     have t5 : a.tmps[5]?.getD undef = .int .i64 k := Reg.slot_val (hx 5 (by kernel_rfl))
     go_simp
     exact hK _ _ (fun _ => rfl) (fun h => by cases h) ⟨_, rfl⟩ trivial
    ·rintro a w1 ⟨n1, rfl⟩ hx hd K hK
     have t22 : a.tmps[22]?.getD undef = .slice (some ⟨b2, o2, none⟩) len cap' := Reg.slot_val (hd 5 (by kernel_rfl) 22 rfl)
     have t23 : a.tmps[23]?.getD undef = .int .i64 k := Reg.slot_val (hd 6 (by kernel_rfl) 23 rfl)
     go_simp
     exact hK _ _ (fun _ => rfl) (fun h => by cases h) ⟨_, rfl⟩ trivial
    ·rintro a w1 ⟨n1, rfl⟩ hx hd K hK
     have t24 : a.tmps[24]?.getD undef = .pointer (some ⟨b2, o2 + k, none⟩) := Reg.slot_val (hd 7 (by kernel_rfl) 24 rfl)
     go_simp
     exact hK _ _ (fun _ => rfl) (fun h => by cases h) ⟨_, rfl⟩ trivial
    ·rintro a w1 ⟨n1, rfl⟩ hx hd K hK
     have t25 : a.tmps[25]?.getD undef = .float .f32 z := Reg.slot_val (hd 8 (by kernel_rfl) 25 rfl)
     go_simp
     exact hK _ _ (fun _ => ⟨_, rfl, FV_wR hv⟩) (fun h => by cases h) ⟨_, rfl⟩ trivial
    ·rintro a w1 ⟨n1, rfl⟩ hx hd K hK
     obtain ⟨r21, g21, f21⟩ := hd 4 (by kernel_rfl) 21 rfl
     have t21 := Reg.slot_val g21
     clear g21
     obtain ⟨r26, g26, f26⟩ := hd 9 (by kernel_rfl) 26 rfl
     have t26 := Reg.slot_val g26
     clear g26
     go_simp
     refine (laws_sameFloat _ _ _ _ f21 f26).mono ?_
     rintro en w2 ⟨rfl, n2, rfl⟩
     exact hK _ _ (fun _ => rfl) (fun h => by cases h) ⟨_, World.drewN_drewN ..⟩ trivial
    ·rintro a w1 ⟨n1, rfl⟩ hx hd K hK
     have t27 : a.tmps[27]?.getD undef = .bool true := Reg.slot_val (hd 10 (by kernel_rfl) 27 rfl)
     go_simp
     exact hK _ _ (fun _ => rfl) (fun h => by cases h) ⟨_, rfl⟩ trivial
   ·rintro f w1 ⟨n1, rfl⟩ hd hT
    have g28 : f 28 = .bool false := hd 11 28 rfl
    simp only [Reg.mixL, g28]
    go_wp2
    go_roundw
    case rel => exact ⟨k + 1, by omega, by go_num, _, rfl⟩
    case measure => simp [intOf]; omega
  ·go_wp2
   go_ret
   exact ⟨rfl, _, rfl⟩
end Go.Proofs.YtabccmobmppdnaaGreat
namespace Go.Proofs.YtabccmobmppdnaaGreat
open Go Fk Go.RowKit
set_option linter.unusedVariables false
theorem impl_product32 (x y : Nat) (w : World) (c d : Option Nat) (h1 : FV .f32 x c) (h2 : FV .f32 y d) :
  Calls Tryz.prog 95 #[.float .f32 x, .float .f32 y] w fun en w' => ∃ r, en = .returned (.float .f32 r) ∧ FV .f32 r (fop .mul .f32 c d) ∧ ∃ n, w' = w.drewN n := by
 have u := Tryz.underlying27
 go_enter Tryz.func95, Tryz.ntmps95
 go_wp2
 go_ret
 exact ⟨_, rfl, FV_fR h1 h2, _, rfl⟩
theorem l01Scale (x y z r : Nat) (w : World) (c d e q : Option Nat) (h1 : FV .f32 x c) (h2 : FV .f32 y d) (h3 : FV .f32 z e) (hr : FV .f32 r q) :
  Calls Tryz.prog 123 #[vv x y z, .float .f32 r] w fun en w' => ∃ a b g, en = .returned (vv a b g) ∧ FV .f32 a (fop .mul .f32 c q) ∧ FV .f32 b (fop .mul .f32 d q) ∧ FV .f32 g (fop .mul .f32 e q) ∧ Below w.heap.size w w' := by
 have u := Tryz.underlying27
 have uv := Tryz.underlying42
 go_enter Tryz.func123, Tryz.ntmps123
 go_wp2
 refine bodyPost_ret (v := vv _ _ _) (by simp [results, Tryz.results123, go_sem] <;> exact ⟨rfl, rfl, rfl⟩) rfl ⟨_, _, _, rfl, FV_fR h1 hr, FV_fR h2 hr, FV_fR h3 hr, ?_⟩
 exact below_drewN (((Below.refl _ _).alloc (Nat.le_refl _) _).alloc (by simp) _) _
set_option maxHeartbeats 2000000 in
theorem impl_ScaleVector (x y z r : Nat) (w : World) (c d e q : Option Nat) (h1 : FV .f32 x c) (h2 : FV .f32 y d) (h3 : FV .f32 z e) (hr : FV .f32 r q) :
  Calls Tryz.prog 128 #[vv x y z, .float .f32 r] w fun en w' => ∃ a b g, en = .returned (vv a b g) ∧ FV .f32 a (fop .mul .f32 c q) ∧ FV .f32 b (fop .mul .f32 d q) ∧ FV .f32 g (fop .mul .f32 e q) ∧ Below w.heap.size w w' := by
 have u := Tryz.underlying27
 have uv := Tryz.underlying42
 go_enter Tryz.func128, Tryz.ntmps128
 go_wp2_with fail
 go_region_held3 (fun w' => w'.cell? ⟨w.heap.size, 0, none⟩ = some (.float .f32 x) ∧ w'.cell? ⟨w.heap.size, 1, none⟩ = some (.float .f32 y) ∧ w'.cell? ⟨w.heap.size, 2, none⟩ = some (.float .f32 z)) (go_keep) ((go_at_call 95; refine (impl_product32 _ _ _ _ _ (by assumption) (by assumption)).mono ?_; rintro en w1 ⟨r1, rfl, hr1, n1, rfl⟩))
 all_goals
  go_wp2
  refine bodyPost_ret (v := vv _ _ _) (by simp [results, Tryz.results128, go_sem] <;> exact ⟨rfl, rfl, rfl⟩) rfl ⟨_, _, _, rfl, (by first | assumption | exact FV_fR (by assumption) (by assumption)), (by first | assumption | exact FV_fR (by assumption) (by assumption)), (by first | assumption | exact FV_fR (by assumption) (by assumption)), below_drewN (((Below.refl _ _).alloc (Nat.le_refl _) _).alloc (by simp) _) _⟩
theorem l01Cross (x y z x' y' z' : Nat) (w : World) (c d e c' d' e' : Option Nat) (h1 : FV .f32 x c) (h2 : FV .f32 y d) (h3 : FV .f32 z e) (h1' : FV .f32 x' c') (h2' : FV .f32 y' d') (h3' : FV .f32 z' e') :
  Calls Tryz.prog 167 #[vv x y z, vv x' y' z'] w fun en w' => ∃ a b g, en = .returned (vv a b g) ∧ FV .f32 a (fop .sub .f32 (fop .mul .f32 d e') (fop .mul .f32 e d')) ∧ FV .f32 b (fop .sub .f32 (fop .mul .f32 e c') (fop .mul .f32 c e')) ∧ FV .f32 g (fop .sub .f32 (fop .mul .f32 c d') (fop .mul .f32 d c')) ∧ Below w.heap.size w w' := by
 have u := Tryz.underlying27
 have uv := Tryz.underlying42
 go_enter Tryz.func167, Tryz.ntmps167
 go_wp2
 refine bodyPost_ret (v := vv _ _ _) (by simp [results, Tryz.results167, go_sem] <;> exact ⟨rfl, rfl, rfl⟩) rfl ⟨_, _, _, rfl, FV_fR (FV_fR h2 h3') (FV_fR h3 h2'), FV_fR (FV_fR h3 h1') (FV_fR h1 h3'), FV_fR (FV_fR h1 h2') (FV_fR h2 h1'), below_drewN ((((Below.refl _ _).alloc (Nat.le_refl _) _).alloc (by simp) _).alloc (by simp; omega) _) _⟩
theorem l01Inner (x y z x' y' z' : Nat) (w : World) (c d e c' d' e' : Option Nat) (h1 : FV .f32 x c) (h2 : FV .f32 y d) (h3 : FV .f32 z e) (h1' : FV .f32 x' c') (h2' : FV .f32 y' d') (h3' : FV .f32 z' e') :
  Calls Tryz.prog 171 #[vv x y z, vv x' y' z'] w fun en w' => ∃ a, en = .returned (.float .f32 a) ∧ FV .f32 a (fop .add .f32 (fop .add .f32 (fop .mul .f32 c c') (fop .mul .f32 d d')) (fop .mul .f32 e e')) ∧ Below w.heap.size w w' := by
 have u := Tryz.underlying27
 have uv := Tryz.underlying42
 go_enter Tryz.func171, Tryz.ntmps171
 go_wp2
 go_ret
 exact ⟨_, rfl, FV_fR (FV_fR (FV_fR h1 h1') (FV_fR h2 h2')) (FV_fR h3 h3'), below_drewN (((Below.refl _ _).alloc (Nat.le_refl _) _).alloc (by simp) _) _⟩
end Go.Proofs.YtabccmobmppdnaaGreat
namespace Go.Proofs.YtabccmobmppdnaaGreat
namespace Reg3
open Go Reg
set_option linter.unusedVariables false
section
variable {P : Program} {ops : Array Oper} {Q : Exit → Act → World → Prop} {md : Region.Mode}
def Obl (P : Program) (ops : Array Oper) (a0 : Act) (C : World → Prop) (G : World → World → Prop) (R : Nat → Value → World → Prop) (T : Nat → Act → World → Prop) (Q : Exit → Act → World → Prop) (i : Nat) (o : Oper) : Prop :=
 ∀ a w, C w → (∀ t, ((List.range ops.size).all fun j => slotOf ops j != some t || behind ops i j) = true → a.eval (.tmp t) = a0.eval (.tmp t)) →
  (∀ j, behind ops j i = true → Has ops R j a w) →
  o.wp P a w (fun a' w' => ∃ v, a' = a.put o.dst v ∧ (o.dst ≠ none → R i v w') ∧ (o.dst = none → T i a w') ∧ (o.dst ≠ none → C w') ∧ G w w') Q
def OblAll (P : Program) (ops : Array Oper) (a0 : Act) (C : World → Prop) (G : World → World → Prop) (R : Nat → Value → World → Prop) (T : Nat → Act → World → Prop) (Q : Exit → Act → World → Prop) : Nat → List Oper → Prop
 | _, [] => True
 | i, o :: l => Obl P ops a0 C G R T Q i o ∧ OblAll P ops a0 C G R T Q (i + 1) l
theorem OblAll.get {a0 : Act} {C : World → Prop} {G : World → World → Prop} {R : Nat → Value → World → Prop} {T : Nat → Act → World → Prop} :
  ∀ {l : List Oper} {k : Nat}, OblAll P ops a0 C G R T Q k l → ∀ {i : Nat} {o : Oper}, l[i]? = some o → Obl P ops a0 C G R T Q (k + i) o
 | [], _, _, _, _, h => by simp at h
 | _ :: _, _, h, 0, _, ho => by simp at ho; subst ho; exact h.1
 | _ :: l, k, h, i + 1, _, ho => by
  have := OblAll.get h.2 (i := i) (by simpa using ho)
  rwa [Nat.add_assoc, Nat.add_comm 1 i] at this
theorem Obl.mk {a0 : Act} {C : World → Prop} {G : World → World → Prop} {R : Nat → Value → World → Prop} {T : Nat → Act → World → Prop} {i : Nat} {o : Oper}
  (h : ∀ a w, C w → (∀ t, ((List.range ops.size).all fun j => slotOf ops j != some t || behind ops i j) = true → a.eval (.tmp t) = a0.eval (.tmp t)) →
   (∀ j, behind ops j i = true → Has ops R j a w) → ∀ K : Act → World → Prop, (∀ v w', (o.dst ≠ none → R i v w') → (o.dst = none → T i a w') → (o.dst ≠ none → C w') → G w w' → K (a.put o.dst v) w') → o.wp P a w K Q) : Obl P ops a0 C G R T Q i o :=
 fun a w hC he hd => h a w hC he hd _ fun v w' h1 h2 h3 h4 => ⟨v, rfl, h1, h2, h3, h4⟩
theorem wp_region_inv {id : Nat} {a0 : Act} {w0 : World} {C : World → Prop} {G : World → World → Prop} {R : Nat → Value → World → Prop} {T : Nat → Act → World → Prop} (hm : P.follows .mixedOrders = true) (ht : tidy ops a0.tmps.size = true)
  (hG : ∀ j v w w', C w → G w w' → R j v w → R j v w') (hC : C { w0 with drawn := w0.drawn + 1 })
  (hO : OblAll P ops a0 C G R T Q 0 ops.toList)
  (hQ : ∀ a w, a.defers = a0.defers → a.tmps.size = a0.tmps.size → (∀ t, (ops.all fun o => o.dst != some t) = true → a.eval (.tmp t) = a0.eval (.tmp t)) → (∀ j, j < ops.size → Has ops R j a w) → (∀ j, HasT ops T j a w) → Q .normal a w) :
  (Code.region id ops true).wp P Q a0 w0 := by
 unfold tidy at ht
 simp only [Bool.and_eq_true] at ht
 obtain ⟨⟨⟨⟨hlow, hgd⟩, hbd⟩, hdis⟩, hlast⟩ := ht
 have slot_lt : ∀ {j d}, slotOf ops j = some d → j < ops.size := fun {j d} h => by
  unfold slotOf at h
  cases ho : ops[j]? with
  | none => rw [ho] at h; cases h
  | some o => exact (Array.getElem?_eq_some_iff.1 ho).1
 have slot_bd : ∀ {j d}, slotOf ops j = some d → d < a0.tmps.size := fun {j d} h => by
  have hj := slot_lt h
  have := Array.all_eq_true.1 hbd j hj
  unfold slotOf at h
  rw [Array.getElem?_eq_getElem hj] at h
  simp only [Option.bind_some] at h
  rw [h] at this
  simpa using this
 have slot_ne : ∀ {i j d}, slotOf ops i = some d → slotOf ops j = some d → i = j := fun {i j d} h1 h2 => by
  have a1 := slot_lt h1
  have a2 := slot_lt h2
  have := List.all_eq_true.1 (List.all_eq_true.1 hdis i (List.mem_range.2 a1)) j (List.mem_range.2 a2)
  rw [h1, h2] at this
  simpa using this
 let Inv : Array Bool → Act → World → Prop := fun listed a w => ((∀ j, j < ops.size → slotOf ops j = none → listed.getD j false = false) → C w) ∧ a.defers = a0.defers ∧ a.tmps.size = a0.tmps.size ∧
  (∀ t, (∀ j, slotOf ops j = some t → listed.getD j false = false) → a.eval (.tmp t) = a0.eval (.tmp t)) ∧
  (∀ j, listed.getD j false = true → Has ops R j a w) ∧ (∀ i j, listed.getD j false = true → behind ops i j = true → listed.getD i false = true) ∧ (∀ j, listed.getD j false = true → HasT ops T j a w)
 refine wp_region_any hm (wpAny_inv (Inv := Inv) hlow ?_ ?_ _ _ _ _ (by simp) (by simp) ⟨fun _ => hC, rfl, rfl, fun _ _ => rfl, ?_, ?_, ?_⟩)
 ·intro i listed a w hs hi ⟨hCw0, hd, hsz, hext, hhas, hcl, hT⟩
  obtain ⟨hun, o, ho, hdeps⟩ := mem_ready.1 hi
  have hilt : i < ops.size := (Array.getElem?_eq_some_iff.1 ho).1
  have hun' : listed.getD i false = false := by
   have : i < listed.size := by omega
   simp [this] at hun ⊢; exact hun
  have hg : o.guard = none := by
   have := Array.all_eq_true.1 hgd i hilt
   rw [Array.getElem?_eq_getElem hilt] at ho
   cases ho
   simpa using this
  have hCw : C w := hCw0 fun j hlt hn => by
   cases hl : listed.getD j false
   ·rfl
   ·exfalso
    have h1 := List.all_eq_true.1 hlast j (List.mem_range.2 hlt)
    rw [hn] at h1
    simp only [bne_self_eq_false, Bool.false_or] at h1
    have h2 := List.all_eq_true.1 h1 i (List.mem_range.2 hilt)
    have hne : i ≠ j := fun e => by subst e; rw [hun'] at hl; cases hl
    simp [hne] at h2
    have := hcl i j hl h2
    rw [hun'] at this; cases this
  have hob := OblAll.get hO (i := i) (o := o) (by simpa using ho)
  rw [Nat.zero_add] at hob
  have hwp := hob a w hCw (fun t htt => hext t fun j hj => by
    have := List.all_eq_true.1 htt j (List.mem_range.2 (slot_lt hj))
    rw [hj] at this
    simp at this
    cases hl : listed.getD j false
    ·rfl
    ·have := hcl i j hl this; rw [hun'] at this; cases this)
   (fun j hj => hhas j (by
    obtain ⟨e, he, h1, h2⟩ := behind_spec hj ho
    rw [← h1]
    exact hdeps e he h2))
  unfold wpOp
  rw [ho]
  simp only [Region.wanted, hg, if_true]
  refine .inl (Oper.wp_mono ?_ hwp)
  rintro a' w' ⟨v, rfl, hR, hTi, hC', hGw⟩
  have hdst : slotOf ops i = o.dst := by unfold slotOf; rw [ho]; rfl
  have keep : ∀ t, o.dst ≠ some t → (a.put o.dst v).eval (.tmp t) = a.eval (.tmp t) := fun t h => Act.eval_put (fun d hd he => h (by rw [hd]; cases he; rfl))
  have lst : ∀ j, (listed.setIfInBounds i true).getD j false = true → j = i ∨ listed.getD j false = true := fun j h => by
   by_cases hji : i = j
   ·exact .inl hji.symm
   ·rw [getD_set_ne false hji] at h; exact .inr h
  refine ⟨fun hno => hC' fun hn => ?_, ?_, ?_, ?_, ?_, ?_, ?_⟩
  ·have := hno i hilt (by rw [hdst]; exact hn)
   have hlt : i < listed.size := by omega
   simp [hlt] at this
  ·rw [← hd]; unfold Act.put; split <;> rfl
  ·rw [← hsz]; unfold Act.put; split <;> simp
  ·intro t htt
   rw [keep t (fun h => by
    have := htt i (by rw [hdst]; exact h)
    have hlt : i < listed.size := by omega
    simp [hlt] at this)]
   refine hext t fun j hj => ?_
   have := htt j hj
   cases hl : listed.getD j false
   ·rfl
   ·rw [getD_set_true hl] at this; cases this
  ·intro j hj d hjd
   rcases lst j hj with rfl | hj'
   ·rw [hdst] at hjd
    have hb := slot_bd (j := j) (by rw [hdst]; exact hjd)
    have : (a.put o.dst v).eval (.tmp d) = v := by
     unfold Act.put Act.eval; rw [hjd]; simp; exact fun h => absurd (Nat.lt_of_lt_of_le hb (hsz ▸ h)) (Nat.lt_irrefl _)
    rw [this]; exact hR (by rw [hjd]; simp)
   ·rw [keep d (fun h => by
     have := slot_ne (show slotOf ops i = some d by rw [hdst]; exact h) hjd
     subst this; rw [hun'] at hj'; cases hj')]
    exact hG _ _ _ _ hCw hGw (hhas j hj' d hjd)
  ·intro i' j hj hb
   rcases lst j hj with rfl | hj'
   ·refine getD_set_true ?_
    obtain ⟨e, he, h1, h2⟩ := behind_spec hb ho
    rw [← h1]; exact hdeps e he h2
   ·exact getD_set_true (hcl i' j hj' hb)
  ·intro j hj hn hlt
   rcases lst j hj with rfl | hj'
   ·rw [hdst] at hn
    have : a.put o.dst v = a := by rw [hn]; rfl
    rw [this]; exact hTi hn
   ·exfalso
    have h1 := List.all_eq_true.1 hlast j (List.mem_range.2 hlt)
    rw [hn] at h1
    simp only [bne_self_eq_false, Bool.false_or] at h1
    have h2 := List.all_eq_true.1 h1 i (List.mem_range.2 hilt)
    have hne : i ≠ j := fun e => by subst e; rw [hun'] at hj'; cases hj'
    simp [hne] at h2
    have := hcl i j hj' h2
    rw [hun'] at this; cases this
 ·intro listed a w hall ⟨_, hd, hsz, hext, hhas, _, hT⟩
  refine hQ a w hd hsz (fun t htt => hext t fun j hj => ?_) (fun j hj => hhas j (hall j hj)) (fun j hn hlt => hT j (hall j hlt) hn hlt)
  exfalso
  have hlt := slot_lt hj
  have := Array.all_eq_true.1 htt j hlt
  unfold slotOf at hj
  rw [Array.getElem?_eq_getElem hlt] at hj
  simp only [Option.bind_some] at hj
  rw [hj] at this
  simp at this
 ·intro j hj
  simp at hj
  rw [Array.getElem?_replicate] at hj; split at hj <;> simp at hj
 ·intro i j hj
  simp at hj
  rw [Array.getElem?_replicate] at hj; split at hj <;> simp at hj
 ·intro j hj
  simp at hj
  rw [Array.getElem?_replicate] at hj; split at hj <;> simp at hj
theorem wp_region_mix {id : Nat} {a0 : Act} {w0 : World} {C : World → Prop} {G : World → World → Prop} {R : Nat → Value → World → Prop} {T : Nat → Act → World → Prop} (m : List Bool) (hm : P.follows .mixedOrders = true) (ht : tidy ops a0.tmps.size = true)
  (hk : maskOk ops m a0.tmps.size = true)
  (hG : ∀ j v w w', C w → G w w' → R j v w → R j v w') (hC : C { w0 with drawn := w0.drawn + 1 })
  (hO : OblAll P ops a0 C G R T Q 0 ops.toList)
  (hQ : ∀ (f : Nat → Value) w, (∀ j d, slotOf ops j = some d → R j (f d) w) → (∀ j, HasT ops T j ⟨(mixL f m 0 a0.tmps.toList).toArray, a0.defers⟩ w) → Q .normal ⟨(mixL f m 0 a0.tmps.toList).toArray, a0.defers⟩ w) :
  (Code.region id ops true).wp P Q a0 w0 := by
 refine wp_region_inv hm ht hG hC hO fun a w hd hsz hext hhas hT => ?_
 unfold maskOk at hk
 simp only [Bool.and_eq_true, beq_iff_eq] at hk
 obtain ⟨hml, hmk⟩ := hk
 have e : a = ⟨(mixL (fun t => a.eval (.tmp t)) m 0 a0.tmps.toList).toArray, a0.defers⟩ := by
  rw [mixL_eq _ _ _ _ (by simpa using hml) ?_]
  ·cases a with
   | mk tmps defers =>
    simp only [Act.mk.injEq]
    refine ⟨?_, hd⟩
    apply Array.ext'
    apply List.ext_getElem?
    intro i
    simp only at hsz
    by_cases hi : i < tmps.size
    ·have hi' : i < a0.tmps.size := by omega
     simp [hi, hi', Act.eval]
    ·have hi' : ¬ i < a0.tmps.size := by omega
     simp [hi, hi']
  ·intro i hi
   have hlt : i < a0.tmps.size := by
    have := (List.getElem?_eq_some_iff.1 hi).1; omega
   have h1 := List.all_eq_true.1 hmk i (List.mem_range.2 hlt)
   have h2 : m.getD i false = false := by simp [List.getD, hi]
   rw [h2, Bool.false_or] at h1
   have h3 := hext i h1
   rw [Nat.zero_add, h3]
   simp [Act.eval, hlt]
 have h1 : ∀ j d, slotOf ops j = some d → R j ((fun t => a.eval (.tmp t)) d) w := fun j d hj => hhas j (by
  unfold slotOf at hj
  cases ho : ops[j]? with
  | none => rw [ho] at hj; cases hj
  | some o => exact (Array.getElem?_eq_some_iff.1 ho).1) d hj
 rw [e] at hT ⊢
 exact hQ (fun t => a.eval (.tmp t)) w h1 hT
end
end Reg3
end Go.Proofs.YtabccmobmppdnaaGreat
namespace Go.Proofs.YtabccmobmppdnaaGreat
open Go Fk Go.RowKit
set_option linter.unusedVariables false
set_option maxRecDepth 8000
def addC (a b : C3) : C3 := (fop .add .f32 a.1 b.1, fop .add .f32 a.2.1 b.2.1, fop .add .f32 a.2.2 b.2.2)
abbrev z3 : C3 := (some 0, some 0, some 0)
def FV3 (x y z : Nat) (c : C3) : Prop := FV .f32 x c.1 ∧ FV .f32 y c.2.1 ∧ FV .f32 z c.2.2
def V3 (w : World) (b x y z : Nat) : Prop :=
 (w.cell? ⟨b, 0, none⟩ = some (.float .f32 x) ∧ w.cell? ⟨b, 1, none⟩ = some (.float .f32 y) ∧ w.cell? ⟨b, 2, none⟩ = some (.float .f32 z)) ∧ ∀ i, w.frozen? ⟨b, i, none⟩ = false
theorem V3.lt {w : World} {b x y z : Nat} (h : V3 w b x y z) : b < w.heap.size := World.block_lt_of_cell? w _ h.1.1
theorem V3.below {W w : World} {b x y z : Nat} (hb : Below W.heap.size W w) (h : V3 W b x y z) : V3 w b x y z :=
 ⟨⟨cell_below hb h.1.1, cell_below hb h.1.2.1, cell_below hb h.1.2.2⟩, fun i => frozen_below hb h.lt (h.2 i)⟩
theorem V3.new {w : World} {x y z : Nat} {t : TypeId} : V3 (w.alloc (.cells #[.float .f32 x, .float .f32 y, .float .f32 z] t)) w.heap.size x y z := ⟨⟨new0, new1, new2⟩, fun i => newf⟩
theorem V3.alloc {w : World} {b x y z : Nat} {o : Obj} (h : V3 w b x y z) : V3 (w.alloc o) b x y z :=
 h.below ((Below.refl _ _).alloc (Nat.le_refl _) _)
theorem V3.put {w : World} {b x y z p q r : Nat} (h : V3 w b x y z) : V3 (((w.setCell ⟨b, 0, none⟩ (.float .f32 p)).setCell ⟨b, 1, none⟩ (.float .f32 q)).setCell ⟨b, 2, none⟩ (.float .f32 r)) b p q r := by
 obtain ⟨k0, k1, k2, _⟩ := set3k (u := .float .f32 p) (v := .float .f32 q) (t := .float .f32 r) (n := b) (o := 0) h.1.1 h.1.2.1 h.1.2.2
 exact ⟨⟨k0, k1, k2⟩, fun i => by simp; exact h.2 i⟩
theorem V3.far {w : World} {b x y z n : Nat} {u v t : Value} (h : V3 w b x y z) (hne : n ≠ b) : V3 (((w.setCell ⟨n, 0, none⟩ u).setCell ⟨n, 1, none⟩ v).setCell ⟨n, 2, none⟩ t) b x y z := by
 refine ⟨⟨?_, ?_, ?_⟩, fun i => by simp; exact h.2 i⟩
 ·exact cell_set hne (cell_set hne (cell_set hne h.1.1))
 ·exact cell_set hne (cell_set hne (cell_set hne h.1.2.1))
 ·exact cell_set hne (cell_set hne (cell_set hne h.1.2.2))
end Go.Proofs.YtabccmobmppdnaaGreat
namespace Go.Proofs.YtabccmobmppdnaaGreat
open Go Fk Go.RowKit
set_option linter.unusedVariables false
def At (w : World) (b : Nat) (vs : List Value) : Prop := ∀ i v, vs[i]? = some v → w.cell? ⟨b, i, none⟩ = some v
theorem At.below {W w : World} {b : Nat} {vs : List Value} (hb : Below W.heap.size W w) (h : At W b vs) : At w b vs := fun i v hv => cell_below hb (h i v hv)
theorem At.alloc {w : World} {b : Nat} {vs : List Value} {o : Obj} (h : At w b vs) : At (w.alloc o) b vs := fun i v hv => cell_alloc (h i v hv)
theorem At.new {w : World} {vs : List Value} {t : TypeId} : At (w.alloc (.cells vs.toArray t)) w.heap.size vs := by
 intro i v hv
 simp [hv]
theorem At.far {w : World} {b : Nat} {vs : List Value} {a : Addr} {u : Value} (hne : a.block ≠ b) (h : At w b vs) : At (w.setCell a u) b vs := fun i v hv => cell_set hne (h i v hv)
theorem At.set {w : World} {b : Nat} {vs : List Value} (h : At w b vs) (i : Nat) (u : Value) : At (w.setCell ⟨b, i, none⟩ u) b (vs.set i u) := by
 intro j v hv
 rw [List.getElem?_set] at hv
 by_cases hij : i = j
 ·subst hij
  rw [if_pos rfl] at hv
  split at hv
  ·rename_i hlt
   cases hv
   exact World.cell?_setCell_same _ _ _ (h i vs[i] (List.getElem?_eq_getElem hlt))
  ·cases hv
 ·rw [if_neg hij] at hv
  rw [World.cell?_setCell_other _ _ _ _ (by simp <;> omega)]
  exact h j v hv
theorem At.lt {w : World} {b : Nat} {v : Value} {vs : List Value} (h : At w b (v :: vs)) : b < w.heap.size := World.block_lt_of_cell? w _ (h 0 v rfl)
def Fr (w : World) (b : Nat) : Prop := ∀ i, w.frozen? ⟨b, i, none⟩ = false
theorem Fr.below {W w : World} {b : Nat} (hb : Below W.heap.size W w) (hlt : b < W.heap.size) (h : Fr W b) : Fr w b := fun i => frozen_below hb hlt (h i)
theorem Fr.setC {w : World} {b : Nat} {a : Addr} {u : Value} (h : Fr w b) : Fr (w.setCell a u) b := fun i => by simp; exact h i
theorem Fr.new {w : World} {vs : Array Value} {t : TypeId} : Fr (w.alloc (.cells vs t)) w.heap.size := fun i => by simp
end Go.Proofs.YtabccmobmppdnaaGreat

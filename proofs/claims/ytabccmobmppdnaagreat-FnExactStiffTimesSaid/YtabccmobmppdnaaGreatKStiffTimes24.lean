/-
Texts in one: what StiffTimes stands on, part 24. Conditions: those of each.
-/
import Derived.Test.YtabccmobmppdnaaGreatKStiffTimes23
-- halved
namespace Go.Proofs.YtabccmobmppdnaaGreat
open Go Fk Go.RowKit Go.Maps
set_option linter.unusedVariables false
set_option maxRecDepth 16000
end Go.Proofs.YtabccmobmppdnaaGreat
namespace Go.Proofs.YtabccmobmppdnaaGreat
open Go Fk Go.RowKit Go.Maps
set_option linter.unusedVariables false
set_option maxRecDepth 16000
end Go.Proofs.YtabccmobmppdnaaGreat
namespace Go.Proofs.YtabccmobmppdnaaGreat
open Go Fk Go.RowKit Go.Maps
set_option linter.unusedVariables false
set_option maxRecDepth 16000
theorem key_is {u v a b : Int} (hab : a < b) : (eKey u v = (a, b)) ↔ ((u = a ∧ v = b) ∨ (u = b ∧ v = a)) := by
 unfold eKey
 rw [Prod.mk.injEq]
 omega
theorem grp_tri {n k : Nat} {t : List Int} (h : Tri3 n t) {a b : Int} (hab : a < b) : (grp (pairsT t k) (a, b)).length = if hasB t a && hasB t b then 1 else 0 := by
 obtain ⟨h1, h2, h3, _, _, _⟩ := h
 unfold pairsT triE grp hasB
 generalize t.getD 0 0 = x at *
 generalize t.getD 1 0 = y at *
 generalize t.getD 2 0 = z at *
 have e1 := key_is (u := x) (v := y) hab
 have e2 := key_is (u := y) (v := z) hab
 have e3 := key_is (u := z) (v := x) hab
 rw [List.length_map]
 by_cases c1 : eKey x y = (a, b)
 ·have c2 : ¬ eKey y z = (a, b) := fun c => by rw [e1] at c1; rw [e2] at c; omega
  have c3 : ¬ eKey z x = (a, b) := fun c => by rw [e1] at c1; rw [e3] at c; omega
  have hc := e1.1 c1
  simp only [List.map_cons, List.map_nil, List.filter_cons, List.filter_nil, c1, c2, c3, decide_true, decide_false, if_true, Bool.false_eq_true, if_false]
  rcases hc with ⟨r1, r2⟩ | ⟨r1, r2⟩ <;> simp [r1, r2]
 ·by_cases c2 : eKey y z = (a, b)
  ·have c3 : ¬ eKey z x = (a, b) := fun c => by rw [e2] at c2; rw [e3] at c; omega
   have hc := e2.1 c2
   simp only [List.map_cons, List.map_nil, List.filter_cons, List.filter_nil, c1, c2, c3, decide_true, decide_false, if_true, Bool.false_eq_true, if_false]
   rcases hc with ⟨r1, r2⟩ | ⟨r1, r2⟩ <;> simp [r1, r2]
  ·by_cases c3 : eKey z x = (a, b)
   ·have hc := e3.1 c3
    simp only [List.map_cons, List.map_nil, List.filter_cons, List.filter_nil, c1, c2, c3, decide_true, decide_false, if_true, Bool.false_eq_true, if_false]
    rcases hc with ⟨r1, r2⟩ | ⟨r1, r2⟩ <;> simp [r1, r2]
   ·simp only [List.map_cons, List.map_nil, List.filter_cons, List.filter_nil, c1, c2, c3, decide_false, Bool.false_eq_true, if_false, List.length_nil]
    rw [e1] at c1
    rw [e2] at c2
    rw [e3] at c3
    rw [if_neg]
    simp only [Bool.and_eq_true, Bool.or_eq_true, decide_eq_true_eq]
    omega
end Go.Proofs.YtabccmobmppdnaaGreat
namespace Go.Proofs.YtabccmobmppdnaaGreat
open Go Fk Go.RowKit Go.Maps Go.Sort
set_option linter.unusedVariables false
set_option maxRecDepth 8000
def thN (t : List Int) (i j : Int) : Int := t.getD 0 0 + t.getD 1 0 + t.getD 2 0 - i - j
def thirds (ts : List (List Int)) (i j : Int) (L : List Int) : List Int := L.map fun k => thN (ts.getD k.toNat []) i j
def hrow (ts : List (List Int)) (e : Int × Int) : List Int := e.1 :: e.2 :: thirds ts e.1 e.2 (atL ts e.1 e.2 ts.length)
def isH (ts : List (List Int)) (e : Int × Int) : Bool := decide ((atL ts e.1 e.2 ts.length).length = 2)
def hgK (ts : List (List Int)) (ps : List (Int × Int)) (k : Nat) : List (List Int) := ((ps.take k).filter (isH ts)).map (hrow ts)
theorem hgK_s {ts : List (List Int)} {ps : List (Int × Int)} {k : Nat} (hk : k < ps.length) : hgK ts ps (k + 1) = hgK ts ps k ++ (bif isH ts (ps.getD k (0, 0)) then [hrow ts (ps.getD k (0, 0))] else []) := by
 have e : ps.take (k + 1) = ps.take k ++ [ps.getD k (0, 0)] := by
  rw [List.take_add_one, List.getElem?_eq_getElem hk]
  simp [List.getD, List.getElem?_eq_getElem hk]
 unfold hgK
 rw [e, List.filter_append, List.map_append]
 cases h : isH ts (ps.getD k (0, 0))
 ·simp only [List.filter_cons, List.filter_nil, h, cond_false, Bool.false_eq_true, if_false, List.map_nil]
 ·simp only [List.filter_cons, List.filter_nil, h, cond_true, if_true, List.map_cons, List.map_nil]
theorem hgK_len (ts : List (List Int)) (ps : List (Int × Int)) (k : Nat) : (hgK ts ps k).length ≤ k := by
 unfold hgK
 rw [List.length_map]
 exact Nat.le_trans (List.length_filter_le _ _) (List.length_take_le _ _)
def hgT (cs : List C3) (ts : List (List Int)) : List (List Int) := bif validB cs ts then hgK ts (pairsL (keysE ts) cs.length) (pairsL (keysE ts) cs.length).length else []
theorem grp_tri_is {n k : Nat} {t : List Int} (h : Tri3 n t) {a b : Int} (hab : a < b) : grp (pairsT t k) (a, b) = bif hasB t a && hasB t b then [(k : Int)] else [] := by
 have hl := grp_tri (k := k) h hab
 have hall : ∀ z ∈ grp (pairsT t k) (a, b), z = (k : Int) := fun z hz => by
  unfold grp pairsT at hz
  obtain ⟨p, hp, rfl⟩ := List.mem_map.1 hz
  obtain ⟨e, _, rfl⟩ := List.mem_map.1 (List.mem_filter.1 hp).1
  rfl
 generalize grp (pairsT t k) (a, b) = G at *
 cases hc : (hasB t a && hasB t b)
 ·rw [hc] at hl
  simp only [Bool.false_eq_true, if_false] at hl
  exact List.eq_nil_of_length_eq_zero hl
 ·rw [hc] at hl
  simp only [if_true] at hl
  obtain ⟨z, rfl⟩ := List.length_eq_one_iff.1 hl
  have := hall z (by simp)
  subst this
  rfl
theorem grp_is {ts : List (List Int)} {n : Nat} (hT : ∀ i, i < ts.length → Tri3 n (ts.getD i [])) {a b : Int} (hab : a < b) : ∀ k, k ≤ ts.length → grp (preI ts k 0) (a, b) = atL ts a b k
 | 0, _ => by rw [preI_zero]; rfl
 | k + 1, hk => by
  have ih := grp_is hT hab k (by omega)
  have e : preI ts (k + 1) 0 = preI ts k 0 ++ pairsT (ts.getD k []) k := by
   rw [← preI_next]
   unfold preI
   rw [List.take_zero, List.append_nil]
   congr 1
  have hs : grp (preI ts k 0 ++ pairsT (ts.getD k []) k) (a, b) = grp (preI ts k 0) (a, b) ++ grp (pairsT (ts.getD k []) k) (a, b) := by
   unfold grp
   rw [List.filter_append, List.map_append]
  rw [e, hs, ih, grp_tri_is (hT k (by omega)) hab]
  rfl
def thS (t : List Int) (i j : Int) : Int := bif hasB t i && hasB t j then thN t i j else -1
theorem thS_yes {n : Nat} {t : List Int} (h : Tri3 n t) {i j : Int} (hij : i ≠ j) (h1 : hasB t i = true) (h2 : hasB t j = true) : 0 ≤ thN t i j ∧ thN t i j < n ∧ thN t i j ≠ i ∧ thN t i j ≠ j := by
 obtain ⟨n1, n2, n3, ⟨p0, q0⟩, ⟨p1, q1⟩, ⟨p2, q2⟩⟩ := h
 unfold hasB at h1 h2
 unfold thN
 simp only [Bool.or_eq_true, decide_eq_true_eq] at h1 h2
 omega
theorem th_at {n : Nat} {t : List Int} (h : Tri3 n t) {i j : Int} (hij : i ≠ j) (h1 : hasB t i = true) (h2 : hasB t j = true) {k : Nat} (hk : k < 3) (hi : t.getD k 0 ≠ i) (hj : t.getD k 0 ≠ j) : t.getD k 0 = thN t i j := by
 obtain ⟨n1, n2, n3, _, _, _⟩ := h
 unfold hasB at h1 h2
 unfold thN
 simp only [Bool.or_eq_true, decide_eq_true_eq] at h1 h2
 match k, hk with
 | 0, _ => omega
 | 1, _ => omega
 | 2, _ => omega
theorem th_has {n : Nat} {t : List Int} (h : Tri3 n t) {i j : Int} (hij : i ≠ j) (h1 : hasB t i = true) (h2 : hasB t j = true) (hall : ∀ k, k < 3 → t.getD k 0 = i ∨ t.getD k 0 = j) : False := by
 obtain ⟨n1, n2, n3, _, _, _⟩ := h
 have a0 := hall 0 (by omega)
 have a1 := hall 1 (by omega)
 have a2 := hall 2 (by omega)
 omega
theorem mem_at2 {ts : List (List Int)} {p q z : Int} : ∀ {k}, z ∈ atL ts p q k → ∃ i : Nat, i < k ∧ hasB (ts.getD i []) p = true ∧ hasB (ts.getD i []) q = true ∧ z = (i : Int)
 | 0, h => by simp [atL] at h
 | k + 1, h => by
  have hs : atL ts p q (k + 1) = atL ts p q k ++ (bif hasB (ts.getD k []) p && hasB (ts.getD k []) q then [(k : Int)] else []) := rfl
  rw [hs, List.mem_append] at h
  rcases h with h | h
  ·obtain ⟨i, hi, r⟩ := mem_at2 h
   exact ⟨i, by omega, r⟩
  ·cases hc : (hasB (ts.getD k []) p && hasB (ts.getD k []) q)
   ·rw [hc] at h; cases h
   ·rw [hc] at h
    simp only [Bool.and_eq_true] at hc
    exact ⟨k, by omega, hc.1, hc.2, by simpa using h⟩
theorem hrow_in {ts : List (List Int)} {n : Nat} (hT : ∀ i, i < ts.length → Tri3 n (ts.getD i [])) {a b : Nat} (hab : a < b) (hb : b < n) : ∀ z ∈ hrow ts ((a : Int), (b : Int)), 0 ≤ z ∧ z < n := fun z hz => by
 unfold hrow thirds at hz
 rcases List.mem_cons.1 hz with rfl | hz
 ·show 0 ≤ (a : Int) ∧ (a : Int) < n
  omega
 rcases List.mem_cons.1 hz with rfl | hz
 ·show 0 ≤ (b : Int) ∧ (b : Int) < n
  omega
 obtain ⟨y, hy, rfl⟩ := List.mem_map.1 hz
 obtain ⟨i, hi, h1, h2, rfl⟩ := mem_at2 hy
 have := thS_yes (hT i hi) (i := (a : Int)) (j := (b : Int)) (by omega) h1 h2
 rw [Int.toNat_natCast]
 exact ⟨this.1, this.2.1⟩
theorem hgK_mem {ts : List (List Int)} {n k : Nat} {r : List Int} (h : r ∈ hgK ts (pairsL (keysE ts) n) k) : ∃ a b : Nat, a < b ∧ b < n ∧ r = hrow ts ((a : Int), (b : Int)) ∧ isH ts ((a : Int), (b : Int)) = true := by
 unfold hgK at h
 obtain ⟨e, he, rfl⟩ := List.mem_map.1 h
 obtain ⟨h1, h2⟩ := List.mem_filter.1 he
 obtain ⟨a, b, _, hb, hab, _, rfl⟩ := mem_pairsL.1 (List.mem_of_mem_take h1)
 exact ⟨a, b, hab, hb, rfl, h2⟩
theorem hrow_four {ts : List (List Int)} {e : Int × Int} (h : isH ts e = true) : (hrow ts e).length = 4 := by
 unfold isH at h
 have := of_decide_eq_true h
 unfold hrow thirds
 simp [this]
end Go.Proofs.YtabccmobmppdnaaGreat
namespace Go.Proofs.YtabccmobmppdnaaGreat
open Go Fk Go.RowKit Go.Maps
set_option linter.unusedVariables false
set_option maxRecDepth 16000
def flatH (rs : List (List Int)) : List Value := rs.flatMap fun r => [.int .i64 (r.getD 0 0), .int .i64 (r.getD 1 0), .int .i64 (r.getD 2 0), .int .i64 (r.getD 3 0)]
theorem flatH_snoc (rs : List (List Int)) (r : List Int) : flatH (rs ++ [r]) = flatH rs ++ [.int .i64 (r.getD 0 0), .int .i64 (r.getD 1 0), .int .i64 (r.getD 2 0), .int .i64 (r.getD 3 0)] := by simp [flatH]
theorem groups_look2 {W : World} {B n : Nat} {D : DataW Unit} {L : List ((Int × Int) × Int)} {x : Int × Int} (hO : W.ownsGroups Tryz.prog 234 (B + 1) 2 .i64 B n D) (hF : GroupsOf D L) (hn : n < maxLen) (wx : wfE x) :
  ∃ a c, (Instr.lookup 229 (.map (some B)) (.agg #[.int .i64 x.1, .int .i64 x.2]) false).run Tryz.prog W = .ok (.slice a (grp L x).length c) W ∧ W.ownsRow (B + 1) 2 1 (.slice a (grp L x).length c) (grp L x).length ((grp L x).map (Value.int .i64)) := by
 obtain ⟨v, zs, hrun, hat, ho, _, _⟩ := hO.at edgeKeyed Tryz.underlying229 (Tryz.zeroValue33 W) hn (keyOf_edge wx.1 wx.2)
 have hz := group_is hF wx.1 wx.2 hat ho
 have h1 := ho.1
 obtain ⟨a, c, rfl⟩ := owns_slice ho.1
 rw [hz] at hrun h1
 exact ⟨a, c, hrun, h1⟩
theorem two_of {L : List Int} (h : L.length = 2) : ∃ a b, L = [a, b] := by
 match L, h with
 | [a, b], _ => exact ⟨a, b, rfl⟩
theorem i64_small {z : Int} (h0 : -4096 ≤ z) (h1 : z ≤ 4096) : IntKind.i64.wrap z = z := IntWalk.i64_in _ (by omega)
set_option maxHeartbeats 2000000 in
theorem clo_third (tb eb cb tl k : Nat) (m n : Int) (ts : List (List Int)) (w : World) (hb : w.cell? ⟨tb, 0, none⟩ = some (.slice (some ⟨cb, 0, none⟩) tl tl)) (he0 : w.cell? ⟨eb, 0, none⟩ = some (.int .i64 m)) (he1 : w.cell? ⟨eb, 1, none⟩ = some (.int .i64 n)) (hc : IsCs w cb tl ts) (hk : k < tl) (hin : ∀ i, i < 3 → 0 ≤ (ts.getD k []).getD i 0 ∧ ((ts.getD k []).getD i 0).toNat < 64) (hm : 0 ≤ m ∧ m < 64) (hn : 0 ≤ n ∧ n < 64) :
  Calls Tryz.prog 184 #[.int .i64 (k : Int), .pointer (some ⟨tb, 0, none⟩), .pointer (some ⟨eb, 0, none⟩)] w fun e w' => e = .returned (.int .i64 (thN (ts.getD k []) m n)) ∧ Below w.heap.size w w' := by
 have uc := Tryz.underlying190
 have ue := Tryz.underlying234
 obtain ⟨z0, z1, z2⟩ := hc k hk
 obtain ⟨p0, q0⟩ := hin 0 (by decide)
 obtain ⟨p1, q1⟩ := hin 1 (by decide)
 obtain ⟨p2, q2⟩ := hin 2 (by decide)
 unfold thN
 generalize (ts.getD k []).getD 0 0 = x at *
 generalize (ts.getD k []).getD 1 0 = y at *
 generalize (ts.getD k []).getD 2 0 = z at *
 have hk0 : (0 : Int) ≤ (k : Int) := by omega
 have hk1 : (k : Int) < (tl : Int) := by omega
 have lt1 := World.block_lt_of_cell? _ _ hb
 have lt2 := World.block_lt_of_cell? _ _ he0
 have lt3 := World.block_lt_of_cell? _ _ z0
 have w1 : IntKind.i64.wrap (x + y) = x + y := i64_small (by omega) (by omega)
 have w2 : IntKind.i64.wrap (x + y + z) = x + y + z := i64_small (by omega) (by omega)
 have w3 : IntKind.i64.wrap (x + y + z - m) = x + y + z - m := i64_small (by omega) (by omega)
 have w4 : IntKind.i64.wrap (x + y + z - m - n) = x + y + z - m - n := i64_small (by omega) (by omega)
 have HB := Lib.hid ((Below.refl w.heap.size w).alloc (Nat.le_refl _) (.cells #[.int .i64 x, .int .i64 y, .int .i64 z] 190))
 clear hc hin
 go_enter Tryz.func184, Tryz.ntmps184
 go_wp2
 go_ret
 exact ⟨rfl, HB.out⟩
theorem infoHg : (Tryz.prog.info? 196).map (fun i => (i.zero, i.size, i.bytes)) = some (some (.agg #[.int .i64 0, .int .i64 0, .int .i64 0, .int .i64 0]), 4, 32) := by kernel_rfl
set_option maxHeartbeats 8000000 in
theorem impl_hinges (pa ta : Option Addr) (pl pc tl tc : Nat) (cs : List C3) (ts : List (List Int)) (w : World) (hp : IsVs w pa pl pc cs) (ht : IsTs w ta tl tc ts) (hv : validB cs ts = true) :
  Calls Tryz.prog 154 #[.agg #[.slice pa pl pc, .slice ta tl tc]] w fun e w' => ∃ v, e = .returned v ∧ w'.ownsRow w.heap.size 196 4 v (hgT cs ts).length (flatH (hgT cs ts)) ∧ Below w.heap.size w w' := by
 have ui := Tryz.underlying40
 have ue := Tryz.underlying234
 have uh := Tryz.underlying196
 have um := Tryz.underlying229
 obtain ⟨i0, hi, hz0, hz1, hz2⟩ := info_parts infoHg
 have hpl := hp.1
 have htl := ht.1
 obtain ⟨v1, v2⟩ := valid_pl hv
 have hpl64 : pl ≤ 64 := by omega
 have hB0 : Below w.heap.size w (w.alloc (.cells #[.slice pa pl pc, .slice ta tl tc] 40)) := (Below.refl _ _).alloc (Nat.le_refl _) _
 have a0 : (w.alloc (.cells #[.slice pa pl pc, .slice ta tl tc] 40)).cell? ⟨w.heap.size, 0, none⟩ = some (.slice pa pl pc) := by go_simp
 have a1 : (w.alloc (.cells #[.slice pa pl pc, .slice ta tl tc] 40)).cell? ⟨w.heap.size, 1, none⟩ = some (.slice ta tl tc) := by go_simp
 have HV := fun k (hk : k < tl) => tri_partsh (valid_rowh hv (show k < ts.length by omega))
 have HT3 : Hid (∀ i, i < ts.length → Tri3 cs.length (ts.getD i [])) := Lib.hid (fun i (hi : i < ts.length) => tri3_of (valid_rowh hv hi))
 have h3 : ∀ k, k < tl → (ts.getD k []).length = 3 := fun k hk => (HV k hk).1
 have hin : ∀ k, k < tl → ∀ i, i < 3 → 0 ≤ (ts.getD k []).getD i 0 ∧ ((ts.getD k []).getD i 0).toNat < 64 := fun k hk i hi => by
  have := (HV k hk).2 i hi
  omega
 have HLEN : Hid ((pairsL (keysE ts) cs.length).length ≤ 4096) := by
  have h := edT_len cs ts
  unfold edT at h
  rw [hv] at h
  simp only [cond_true] at h
  rw [edgesT_pairs, List.length_map] at h
  exact Lib.hid h
 have HPN : Hid (∀ k, k < (pairsL (keysE ts) cs.length).length → ∃ m n : Nat, m < n ∧ n < 64 ∧ (pairsL (keysE ts) cs.length).getD k (0, 0) = ((m : Int), (n : Int))) := Lib.hid (fun k hk => by
  have hm : (pairsL (keysE ts) cs.length).getD k (0, 0) ∈ pairsL (keysE ts) cs.length := by
   rw [List.getD, List.getElem?_eq_getElem hk]
   exact List.getElem_mem _
  obtain ⟨a, b, _, hb, hab, _, e⟩ := mem_pairsL.1 hm
  exact ⟨a, b, hab, by omega, e⟩)
 unfold hgT
 rw [hv, cond_true]
 have HN := Lib.hid v1
 have H3 := Lib.hid h3
 have HIN := Lib.hid hin
 have HT := Lib.hid ht
 have HTL := Lib.hid htl
 have HB0 := Lib.hid hB0
 have ht128 : tl ≤ 128 := by omega
 have HL := Lib.hid ht128
 clear hv hp ht hB0 v1 v2 h3 hin HV ht128 htl hpl
 generalize hps : pairsL (keysE ts) cs.length = ps at *
 have HPS := Lib.hid hps
 clear hps
 go_enter Tryz.func154, Tryz.ntmps154
 go_wp2_with fail
 generalize (w.alloc (.cells #[.slice pa pl pc, .slice ta tl tc] 40)) = W at *
 refine (impl_edges pa ta pl pc tl tc ts W (HT.out.below HB0.out) H3.out HIN.out HL.out).mono ?_
 rintro e w2 ⟨B, D, rfl, hlo, hO, hG, hB2⟩
 have HG2 := Lib.hid hO
 have HGO := Lib.hid hG
 have b0 := cell_below hB2 a0
 have b1 := cell_below hB2 a1
 have HB2 := Lib.hid (HB0.out.trans (hB2.mono HB0.out.size))
 clear hO hG hB2 hlo a0 a1
 go_wp2_with fail
 refine (all_cornersO pa ta pl pc tl tc ts w2 (HT.out.below HB2.out) H3.out HL.out).mono ?_
 rintro e w3 ⟨rfl, hC, hB3, hcV, _, hCB⟩
 generalize hcb : w2.heap.size + 1 = cb at *
 have HC3 := Lib.hid hC
 have HG3 := Lib.hid (groups_below HG2.out hB3)
 have HB3 := Lib.hid (HB2.out.trans (hB3.mono HB2.out.size))
 clear hC hB3 hCB hcV hcb b0 b1
 go_wp2_with fail
 have hBT : Below w3.heap.size w3 (w3.alloc (.cells #[.slice (some ⟨cb, 0, none⟩) tl tl] 187)) := (Below.refl _ _).alloc (Nat.le_refl _) _
 have hct : (w3.alloc (.cells #[.slice (some ⟨cb, 0, none⟩) tl tl] 187)).cell? ⟨w3.heap.size, 0, none⟩ = some (.slice (some ⟨cb, 0, none⟩) tl tl) := by simp
 have HC4 := Lib.hid (HC3.out.below hBT)
 have HG4 := Lib.hid (groups_below HG3.out hBT)
 have HB4 := Lib.hid (HB3.out.trans (hBT.mono HB3.out.size))
 have HCT := Lib.hid hct
 clear hBT hct
 generalize (w3.alloc (.cells #[.slice (some ⟨cb, 0, none⟩) tl tl] 187)) = W4 at *
 generalize w3.heap.size = tb at *
 have hm := map_of_groups HG4.out
 have hsz := hm.size_le
 have HO := Lib.hid hm
 have HS := Lib.hid hsz
 clear hm hsz
 refine (impl_sortedEdges B _ D _ W4 HO.out (by have := HS.out; have := HL.out; unfold maxLen; omega) (by have := HS.out; have := HL.out; omega)).mono ?_
 rintro e w5 ⟨v, ss, rfl, hK, hrow, hnil, hB5⟩
 have hse : sortE ss = ps := by
  rw [← HPS.out]
  refine sorted_edges ?_ hK HT3.out HN.out
  rw [HTL.out]
  exact HGO.out
 have hln : ss.length = ps.length := by rw [← hse]; unfold sortE; simp
 rw [hse, hln] at hrow
 obtain ⟨a, c, rfl, hat⟩ := edges_at hrow rfl
 have HAT := Lib.hid hat
 have HC5 := Lib.hid (HC4.out.below hB5)
 have HG5 := Lib.hid (groups_below HG4.out hB5)
 have HCT5 := Lib.hid (cell_below hB5 HCT.out)
 have HB5 := Lib.hid (HB4.out.trans (hB5.mono HB4.out.size))
 clear hK hrow hse hln hat hB5 hnil HO HS
 go_wp2
 go_loopw [5, 17] (fun v i w' => ∃ k : Nat, k ≤ ps.length ∧ i = .int .i64 k ∧ Aside (w'.ownsRow w5.heap.size 196 4 v (hgK ts ps k).length (flatH (hgK ts ps k)) ∧ Below w5.heap.size w5 w')) (fun _ i _ => ps.length - (intOf i).toNat)
 case atStart => exact ⟨0, Nat.zero_le _, rfl, World.ownsRow_nil _ _ _ _, Below.refl _ _⟩
 case round =>
  obtain ⟨k, hk, rfl, hA⟩ := hrel
  obtain ⟨hO, hB⟩ := hA.out
  have HO1 := Lib.hid hO
  have HB1 := Lib.hid hB
  by_cases hlt : k < ps.length
  ·obtain ⟨m, n, hmn, hn64, hek⟩ := HPN.out k hlt
   obtain ⟨g, rfl, z0, z1⟩ := (HAT.out.below hB) k hlt
   rw [hek] at z0 z1
   simp only at z0 z1
   have HKS := Lib.hid (hgK_s (ts := ts) hlt)
   have HKL := Lib.hid (hgK_len ts ps k)
   have HEK := Lib.hid hek
   have lg := World.block_lt_of_cell? _ _ z0
   have hk0 : (0 : Int) ≤ (k : Int) := by omega
   have hk1 : (k : Int) < (ps.length : Int) := by omega
   have hBX : Below wr.heap.size wr (wr.alloc (.cells #[.int .i64 (m : Int), .int .i64 (n : Int)] 234)) := (Below.refl _ _).alloc (Nat.le_refl _) _
   have x0 : (wr.alloc (.cells #[.int .i64 (m : Int), .int .i64 (n : Int)] 234)).cell? ⟨wr.heap.size, 0, none⟩ = some (.int .i64 (m : Int)) := by simp
   have x1 : (wr.alloc (.cells #[.int .i64 (m : Int), .int .i64 (n : Int)] 234)).cell? ⟨wr.heap.size, 1, none⟩ = some (.int .i64 (n : Int)) := by simp
   have X01 := Lib.hid (And.intro x0 x1)
   have HBX := Lib.hid hBX
   have HBW := Lib.hid (hB.trans (hBX.mono hB.size))
   have hmf : ∀ (fn : Fn) (first cap : Array Value) (w : World), (Instr.makeFunc fn first cap).run Tryz.prog w = .ok (.func fn first cap) w := fun _ _ _ _ => rfl
   have wm : (Lit.int .i64 (m : Int)).wf = true := WalkArith.wf_i64 (by omega)
   have wn : (Lit.int .i64 (n : Int)).wf = true := WalkArith.wf_i64 (by omega)
   obtain ⟨la, lc, hlk, hlo⟩ := groups_look2 (x := ((m : Int), (n : Int))) (groups_below HG5.out HBW.out) HGO.out (by have := HL.out; unfold maxLen; omega) ⟨wm, wn⟩
   have hgi : grp (preI ts tl 0) ((m : Int), (n : Int)) = atL ts (m : Int) (n : Int) tl := by
    rw [← HTL.out]
    exact grp_is HT3.out (by omega) ts.length (Nat.le_refl _)
   rw [hgi] at hlk hlo
   have hal := atL_len ts (m : Int) (n : Int) tl
   obtain ⟨sz, hsz⟩ : ∃ sz, (atL ts (m : Int) (n : Int) tl).length = sz := ⟨_, rfl⟩
   rw [hsz] at hlk hal
   have hH : isH ts ((m : Int), (n : Int)) = decide (sz = 2) := by unfold isH; rw [HTL.out, hsz]
   have hK := HKS.out
   rw [HEK.out, hH] at hK
   have HK := Lib.hid hK
   have HSZ := Lib.hid hsz
   have HLO := Lib.hid hlo
   clear hA hO hB hek hBX hgi hsz hH hK hlo wm wn
   have hL128 := HL.out
   have hps := HLEN.out
   by_cases h4 : sz = 2
   ·subst h4
    have h4' : (((2 : Nat) : Int) == 2) = true := by decide
    obtain ⟨k0, k1, hk2⟩ : ∃ k0 k1 : Nat, (k0 < tl ∧ k1 < tl) ∧ atL ts (m : Int) (n : Int) tl = [(k0 : Int), (k1 : Int)] := by
     obtain ⟨u0, u1, he⟩ := two_of HSZ.out
     obtain ⟨y0, q0, _, _, e0⟩ := mem_at2 (show u0 ∈ atL ts (m : Int) (n : Int) tl by rw [he]; simp)
     obtain ⟨y1, q1, _, _, e1⟩ := mem_at2 (show u1 ∈ atL ts (m : Int) (n : Int) tl by rw [he]; simp)
     exact ⟨y0, y1, ⟨q0, q1⟩, by rw [he, e0, e1]⟩
    obtain ⟨⟨hk0l, hk1l⟩, hat2⟩ := hk2
    have hlo := HLO.out
    rw [hat2] at hlo
    obtain ⟨lg2, rfl⟩ : ∃ lg2, la = some ⟨lg2, 0, none⟩ := by
     rcases hlo.2 with ⟨_, h0⟩ | ⟨g2, cap, cur, e, _⟩
     ·simp at h0
     ·simp at e
      exact ⟨g2, e.1⟩
    have l0 : (wr.alloc (.cells #[.int .i64 (m : Int), .int .i64 (n : Int)] 234)).cell? ⟨lg2, 0, none⟩ = some (.int .i64 (k0 : Int)) := by rw [hlo.cellAt 0 (by simp)]; rfl
    have l1 : (wr.alloc (.cells #[.int .i64 (m : Int), .int .i64 (n : Int)] 234)).cell? ⟨lg2, 1, none⟩ = some (.int .i64 (k1 : Int)) := by rw [hlo.cellAt 1 (by simp)]; rfl
    have L01 := Lib.hid (And.intro l0 l1)
    have HKY : Hid (hgK ts ps (k + 1) = hgK ts ps k ++ [[(m : Int), (n : Int), thN (ts.getD k0 []) (m : Int) (n : Int), thN (ts.getD k1 []) (m : Int) (n : Int)]]) := Lib.hid (by
     rw [HK.out]
     unfold hrow thirds
     rw [HTL.out, hat2]
     simp)
    have HCL := Lib.hid (fun (kk : Nat) (hkk : kk < tl) (wq : World) (hq : Below (wr.alloc (.cells #[.int .i64 (m : Int), .int .i64 (n : Int)] 234)).heap.size (wr.alloc (.cells #[.int .i64 (m : Int), .int .i64 (n : Int)] 234)) wq) =>
     clo_third tb wr.heap.size cb tl kk (m : Int) (n : Int) ts wq (cell_below (HBW.out.trans (hq.mono HBW.out.size)) HCT5.out) (cell_below hq X01.out.1) (cell_below hq X01.out.2) (HC5.out.below (HBW.out.trans (hq.mono HBW.out.size))) hkk (HIN.out kk hkk) (by omega) (by omega))
    clear hlo l0 l1 hat2 hal HLO
    go_wp2_with fail
    have HCL0 := Lib.hid (HCL.out k0 hk0l)
    have HCL1 := Lib.hid (HCL.out k1 hk1l)
    clear HCL
    have hwrE : wr.heap.size ≤ (wr.alloc (.cells #[.int .i64 (m : Int), .int .i64 (n : Int)] 234)).heap.size := by simp
    generalize thN (ts.getD k0 []) (m : Int) (n : Int) = y0 at *
    generalize thN (ts.getD k1 []) (m : Int) (n : Int) = y1 at *
    generalize (wr.alloc (.cells #[.int .i64 (m : Int), .int .i64 (n : Int)] 234)) = W7 at *
    generalize hE : wr.heap.size = E at *
    refine Reg5.wp_region_mix (m := 17) (C := fun w' => Below W7.heap.size W7 w') (D := fun w' => Below w5.heap.size w5 w') (G := fun w1 w2 => Below w1.heap.size w1 w2) (G' := fun w1 w2 => w2 = w1)
     (R := fun i v w' => match i with
      | 0 => v = u5
      | 1 => v = .pointer (some ⟨E, 0, none⟩)
      | 2 => v = .int .i64 (m : Int)
      | 3 => v = .pointer (some ⟨E, 1, none⟩)
      | 4 => v = .int .i64 (n : Int)
      | 5 => v = .func (.func 184) #[] #[.pointer (some ⟨tb, 0, none⟩), .pointer (some ⟨E, 0, none⟩)]
      | 6 => v = .slice (some ⟨lg2, 0, none⟩) 2 lc
      | 7 => v = .pointer (some ⟨lg2, 0, none⟩)
      | 8 => v = .int .i64 (k0 : Int)
      | 9 => v = .int .i64 y0
      | 10 => v = .func (.func 184) #[] #[.pointer (some ⟨tb, 0, none⟩), .pointer (some ⟨E, 0, none⟩)]
      | 11 => v = .slice (some ⟨lg2, 0, none⟩) 2 lc
      | 12 => v = .pointer (some ⟨lg2, 1, none⟩)
      | 13 => v = .int .i64 (k1 : Int)
      | 14 => v = .int .i64 y1
      | 15 => v = .agg #[.int .i64 (m : Int), .int .i64 (n : Int), .int .i64 y0, .int .i64 y1]
      | 16 => ∃ g, v = .slice (some ⟨g, 0, none⟩) 1 1 ∧ (w'.cell? ⟨g, 0, none⟩ = some (.int .i64 (m : Int)) ∧ w'.cell? ⟨g, 1, none⟩ = some (.int .i64 (n : Int)) ∧ w'.cell? ⟨g, 2, none⟩ = some (.int .i64 y0) ∧ w'.cell? ⟨g, 3, none⟩ = some (.int .i64 y1))
      | 17 => w'.ownsRow w5.heap.size 196 4 v (hgK ts ps (k + 1)).length (flatH (hgK ts ps (k + 1)))
      | 18 => w'.ownsRow w5.heap.size 196 4 v (hgK ts ps (k + 1)).length (flatH (hgK ts ps (k + 1)))
      | _ => True) (T := fun _ _ _ => True) [false, false, false, false, false, true, false, false, false, false, false, false, false, false, false, false, false, false, false, false, false, false, false, false, false, false, false, false, true, true, true, true, true, true, true, true, true, true, true, true, true, true, true, true, true, true, false, false]
     (by kernel_rfl) (by kernel_rfl) (by kernel_rfl) (by kernel_rfl) ?_ ?_ (below_drewN (Below.refl _ _) 1) ?_ ?_
    ·intro j v wa wb hjm _ hG hR
     match j with
     | 0 => exact hR
     | 1 => exact hR
     | 2 => exact hR
     | 3 => exact hR
     | 4 => exact hR
     | 5 => exact hR
     | 6 => exact hR
     | 7 => exact hR
     | 8 => exact hR
     | 9 => exact hR
     | 10 => exact hR
     | 11 => exact hR
     | 12 => exact hR
     | 13 => exact hR
     | 14 => exact hR
     | 15 => exact hR
     | 16 => obtain ⟨g, e, h0, h1, h2, h3⟩ := hR; exact ⟨g, e, cell_below hG h0, cell_below hG h1, cell_below hG h2, cell_below hG h3⟩
     | j + 17 => exact absurd hjm (by omega)
    ·intro j v wa wb _ _ hG hR
     rw [hG]; exact hR
    ·refine ⟨?_, ?_, ?_, ?_, ?_, ?_, ?_, ?_, ?_, ?_, ?_, ?_, ?_, ?_, ?_, ?_, ?_, ?_, ?_, trivial⟩
     ·refine Reg5.Obl.early rfl rfl ?_
      rintro av wq HC hx hd K hK
      replace HC := Lib.hid HC
      have t5 : av.tmps[5]?.getD undef = u5 := Reg.slot_val (hx 5 (by kernel_rfl))
      go_simp
      exact hK _ _ rfl HC.out (Below.refl _ _)
     ·refine Reg5.Obl.early rfl rfl ?_
      rintro av wq HC hx hd K hK
      replace HC := Lib.hid HC
      have t7 : av.tmps[7]?.getD undef = .pointer (some ⟨E, 0, none⟩) := Reg.slot_val (hx 7 (by kernel_rfl))
      go_simp
      exact hK _ _ rfl HC.out (Below.refl _ _)
     ·refine Reg5.Obl.early rfl rfl ?_
      rintro av wq HC hx hd K hK
      replace HC := Lib.hid HC
      have t29 : av.tmps[29]?.getD undef = .pointer (some ⟨E, 0, none⟩) := Reg.slot_val (hd 1 (by kernel_rfl) 29 rfl)
      have q0 := cell_below HC.out X01.out.1
      go_simp
      exact hK _ _ rfl HC.out (Below.refl _ _)
     ·refine Reg5.Obl.early rfl rfl ?_
      rintro av wq HC hx hd K hK
      replace HC := Lib.hid HC
      have t7 : av.tmps[7]?.getD undef = .pointer (some ⟨E, 0, none⟩) := Reg.slot_val (hx 7 (by kernel_rfl))
      go_simp
      exact hK _ _ rfl HC.out (Below.refl _ _)
     ·refine Reg5.Obl.early rfl rfl ?_
      rintro av wq HC hx hd K hK
      replace HC := Lib.hid HC
      have t31 : av.tmps[31]?.getD undef = .pointer (some ⟨E, 1, none⟩) := Reg.slot_val (hd 3 (by kernel_rfl) 31 rfl)
      have q1 := cell_below HC.out X01.out.2
      go_simp
      exact hK _ _ rfl HC.out (Below.refl _ _)
     ·refine Reg5.Obl.early rfl rfl ?_
      rintro av wq HC hx hd K hK
      replace HC := Lib.hid HC
      have t8 : av.tmps[8]?.getD undef = .func (.func 184) #[] #[.pointer (some ⟨tb, 0, none⟩), .pointer (some ⟨E, 0, none⟩)] := Reg.slot_val (hx 8 (by kernel_rfl))
      go_simp
      exact hK _ _ rfl HC.out (Below.refl _ _)
     ·refine Reg5.Obl.early rfl rfl ?_
      rintro av wq HC hx hd K hK
      replace HC := Lib.hid HC
      have t9 : av.tmps[9]?.getD undef = .slice (some ⟨lg2, 0, none⟩) 2 lc := Reg.slot_val (hx 9 (by kernel_rfl))
      go_simp
      exact hK _ _ rfl HC.out (Below.refl _ _)
     ·refine Reg5.Obl.early rfl rfl ?_
      rintro av wq HC hx hd K hK
      replace HC := Lib.hid HC
      have t34 : av.tmps[34]?.getD undef = .slice (some ⟨lg2, 0, none⟩) 2 lc := Reg.slot_val (hd 6 (by kernel_rfl) 34 rfl)
      go_simp
      exact hK _ _ rfl HC.out (Below.refl _ _)
     ·refine Reg5.Obl.early rfl rfl ?_
      rintro av wq HC hx hd K hK
      replace HC := Lib.hid HC
      have t35 : av.tmps[35]?.getD undef = .pointer (some ⟨lg2, 0, none⟩) := Reg.slot_val (hd 7 (by kernel_rfl) 35 rfl)
      have q0 := cell_below HC.out L01.out.1
      go_simp
      exact hK _ _ rfl HC.out (Below.refl _ _)
     ·refine Reg5.Obl.early rfl rfl ?_
      rintro av wq HC hx hd K hK
      replace HC := Lib.hid HC
      have t33 : av.tmps[33]?.getD undef = .func (.func 184) #[] #[.pointer (some ⟨tb, 0, none⟩), .pointer (some ⟨E, 0, none⟩)] := Reg.slot_val (hd 5 (by kernel_rfl) 33 rfl)
      have t36 : av.tmps[36]?.getD undef = .int .i64 (k0 : Int) := Reg.slot_val (hd 8 (by kernel_rfl) 36 rfl)
      go_simp
      refine (HCL0.out wq HC.out).mono ?_
      rintro en w9 ⟨rfl, hB9⟩
      exact hK _ _ rfl (HC.out.trans (hB9.mono HC.out.size)) hB9
     ·refine Reg5.Obl.early rfl rfl ?_
      rintro av wq HC hx hd K hK
      replace HC := Lib.hid HC
      have t8 : av.tmps[8]?.getD undef = .func (.func 184) #[] #[.pointer (some ⟨tb, 0, none⟩), .pointer (some ⟨E, 0, none⟩)] := Reg.slot_val (hx 8 (by kernel_rfl))
      go_simp
      exact hK _ _ rfl HC.out (Below.refl _ _)
     ·refine Reg5.Obl.early rfl rfl ?_
      rintro av wq HC hx hd K hK
      replace HC := Lib.hid HC
      have t9 : av.tmps[9]?.getD undef = .slice (some ⟨lg2, 0, none⟩) 2 lc := Reg.slot_val (hx 9 (by kernel_rfl))
      go_simp
      exact hK _ _ rfl HC.out (Below.refl _ _)
     ·refine Reg5.Obl.early rfl rfl ?_
      rintro av wq HC hx hd K hK
      replace HC := Lib.hid HC
      have t39 : av.tmps[39]?.getD undef = .slice (some ⟨lg2, 0, none⟩) 2 lc := Reg.slot_val (hd 11 (by kernel_rfl) 39 rfl)
      go_simp
      exact hK _ _ rfl HC.out (Below.refl _ _)
     ·refine Reg5.Obl.early rfl rfl ?_
      rintro av wq HC hx hd K hK
      replace HC := Lib.hid HC
      have t40 : av.tmps[40]?.getD undef = .pointer (some ⟨lg2, 1, none⟩) := Reg.slot_val (hd 12 (by kernel_rfl) 40 rfl)
      have q0 := cell_below HC.out L01.out.2
      go_simp
      exact hK _ _ rfl HC.out (Below.refl _ _)
     ·refine Reg5.Obl.early rfl rfl ?_
      rintro av wq HC hx hd K hK
      replace HC := Lib.hid HC
      have t38 : av.tmps[38]?.getD undef = .func (.func 184) #[] #[.pointer (some ⟨tb, 0, none⟩), .pointer (some ⟨E, 0, none⟩)] := Reg.slot_val (hd 10 (by kernel_rfl) 38 rfl)
      have t41 : av.tmps[41]?.getD undef = .int .i64 (k1 : Int) := Reg.slot_val (hd 13 (by kernel_rfl) 41 rfl)
      go_simp
      refine (HCL1.out wq HC.out).mono ?_
      rintro en w9 ⟨rfl, hB9⟩
      exact hK _ _ rfl (HC.out.trans (hB9.mono HC.out.size)) hB9
     ·refine Reg5.Obl.early rfl rfl ?_
      rintro av wq HC hx hd K hK
      replace HC := Lib.hid HC
      have t30 : av.tmps[30]?.getD undef = .int .i64 (m : Int) := Reg.slot_val (hd 2 (by kernel_rfl) 30 rfl)
      have t32 : av.tmps[32]?.getD undef = .int .i64 (n : Int) := Reg.slot_val (hd 4 (by kernel_rfl) 32 rfl)
      have t37 : av.tmps[37]?.getD undef = .int .i64 y0 := Reg.slot_val (hd 9 (by kernel_rfl) 37 rfl)
      have t42 : av.tmps[42]?.getD undef = .int .i64 y1 := Reg.slot_val (hd 14 (by kernel_rfl) 42 rfl)
      go_simp
      exact hK _ _ rfl HC.out (Below.refl _ _)
     ·refine Reg5.Obl.early rfl rfl ?_
      rintro av wq HC hx hd K hK
      replace HC := Lib.hid HC
      have t43 : av.tmps[43]?.getD undef = .agg #[.int .i64 (m : Int), .int .i64 (n : Int), .int .i64 y0, .int .i64 y1] := Reg.slot_val (hd 15 (by kernel_rfl) 43 rfl)
      go_simp
      exact hK _ _ ⟨wq.heap.size, rfl, by simp, by simp, by simp, by simp⟩ (HC.out.alloc HC.out.size _) ((Below.refl _ _).alloc (Nat.le_refl _) _)
     ·refine Reg5.Obl.mid rfl rfl ?_
      rintro av wq hC hx hd K hK
      have t28 : av.eval (.tmp 28) = u5 := hd 0 (by kernel_rfl) 28 rfl
      obtain ⟨b, t44, c0', c1', c2', c3'⟩ := hd 16 (by kernel_rfl) 44 rfl
      have hBw : Below w5.heap.size w5 wq := HBW.out.trans (hC.mono HBW.out.size)
      have hbx := HBX.out
      rw [← hE] at hbx
      have hr := owns_up HO1.out (hbx.trans (hC.mono hbx.size))
      have hkl := HKL.out
      have hsz5 := hBw.size
      refine wp_append_own wq _ _ 193 rfl w5.heap.size 196 i0 (.agg #[.int .i64 0, .int .i64 0, .int .i64 0, .int .i64 0]) 4 32 Tryz.underlying193 hi hz0 hz1 hz2 rfl (by decide) u5 _ _ t28 hr ⟨b, 0, none⟩ 1 1 [.int .i64 (m : Int), .int .i64 (n : Int), .int .i64 y0, .int .i64 y1] t44 rfl (fun j u' hj => ?_) (fun u' hu' => ?_) (by unfold maxLen; omega) (by omega) hsz5 ?_
      ·match j, hj with
       | 0, hj => simp at hj; subst hj; rw [addr_add']; exact c0'
       | 1, hj => simp at hj; subst hj; rw [addr_add']; exact c1'
       | 2, hj => simp at hj; subst hj; rw [addr_add']; exact c2'
       | 3, hj => simp at hj; subst hj; rw [addr_add']; exact c3'
       | j + 4, hj => simp at hj
      ·simp at hu'; rcases hu' with rfl | rfl | rfl | rfl <;> rfl
      ·intro v' w2' ho hg _
       refine hK _ _ ?_ (hBw.grown hg hsz5 (fun q hq => (hr.lt q hq).1))
       show w2'.ownsRow w5.heap.size 196 4 v' (hgK ts ps (k + 1)).length (flatH (hgK ts ps (k + 1)))
       rw [HKY.out, flatH_snoc, List.length_append]
       exact ho
     ·refine Reg5.Obl.late rfl ?_
      rintro av wq hD1 hx hd K hK
      have HC := Lib.hid hD1; clear hD1
      have g := hd 17 (by kernel_rfl) (by omega) 45 rfl
      obtain ⟨u, hu⟩ : ∃ u, u = av.eval (.tmp 45) := ⟨_, rfl⟩
      have t45 : av.tmps[45]?.getD undef = u := Reg.slot_val hu.symm
      have g' : wq.ownsRow w5.heap.size 196 4 u (hgK ts ps (k + 1)).length (flatH (hgK ts ps (k + 1))) := by rw [hu]; exact g
      have G := Lib.hid g'
      clear g hu g'
      go_simp
      exact hK _ _ (fun _ => G.out) (fun h => by cases h) (fun _ => HC.out) (fun _ => rfl)
    ·rintro f wz hDR hT
     obtain ⟨hDD, hR⟩ := hDR (by decide)
     have g5 := hR 18 5 (by omega) rfl
     clear hDR
     have HG := Lib.hid g5
     have HDD := Lib.hid hDD
     clear g5 hDD hR hT
     simp only [Reg.mixL, Nat.zero_add, Nat.reduceAdd]
     go_wp2
     go_roundw
     case rel => exact ⟨k + 1, by omega, by go_num, HG.out, HDD.out⟩
     case measure => simp [intOf]; omega
   ·have h4' : ((sz : Int) == 2) = false := beq_eq_false_iff_ne.2 (by omega)
    have HKY : Hid (hgK ts ps (k + 1) = hgK ts ps k) := Lib.hid (by rw [HK.out, decide_eq_false h4]; simp)
    clear HLO
    go_wp2
    go_roundw
    case rel => exact ⟨k + 1, by omega, by go_num, by rw [HKY.out]; exact owns_up HO1.out HBX.out, HBW.out⟩
    case measure => simp [intOf]; omega
  ·obtain rfl : k = ps.length := by omega
   have HOF := Lib.hid (owns_low HO1.out HB5.out.size)
   have HBF := Lib.hid (HB5.out.trans (HB1.out.mono HB5.out.size))
   clear hA hO hB
   go_wp2
   go_ret
   exact ⟨_, rfl, HOF.out, HBF.out⟩
end Go.Proofs.YtabccmobmppdnaaGreat

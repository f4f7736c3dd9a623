
/-
The triangles of two places: what the program and its model return. Conditions: none beyond that the mesh lies in memory.
-/
import Derived.Test.YtejgenjafajpnabAtE
namespace Go.Proofs.Ytejgenjafajpnab
open Go Fk Go.RowKit
set_option linter.unusedVariables false
set_option maxRecDepth 8000

theorem atL_both {ts : List (List Int)} {p q : Int} {k : Nat} (h : (hasB (ts.getD k []) p && hasB (ts.getD k []) q) = true) : atL ts p q (k + 1) = atL ts p q k ++ [(k : Int)] := by
  simp at h; exact atL_yes (by simpa using h.1) (by simpa using h.2)
set_option maxHeartbeats 400000 in
theorem clo_at (t : List Int) (p p' : Int) (pv pv' : Nat) (w : World) (hc : w.cell? ⟨pv, 0, none⟩ = some (.int .i64 p)) (hc2 : w.cell? ⟨pv', 0, none⟩ = some (.int .i64 p')) :
    Calls Try.prog 80 #[.agg #[.int .i64 (t.getD 0 0), .int .i64 (t.getD 1 0), .int .i64 (t.getD 2 0)], .pointer (some ⟨pv, 0, none⟩), .pointer (some ⟨pv', 0, none⟩)] w fun e w' => e = .returned (.bool (hasB t p && hasB t p')) ∧ Below w.heap.size w w' := by
  have uc := Try.underlying72
  have hJ := fun w => has3 t p w
  have hJ2 := fun w => has3 t p' w
  generalize hasB t p = B at *
  generalize hasB t p' = B' at *
  generalize t.getD 0 0 = j0 at *
  generalize t.getD 1 0 = j1 at *
  generalize t.getD 2 0 = j2 at *
  have HJ := Lib.hid hJ
  have HJ2 := Lib.hid hJ2
  clear hJ hJ2
  have hB0 : Below w.heap.size w (w.alloc (.cells #[.int .i64 j0, .int .i64 j1, .int .i64 j2] 72)) := (Below.refl _ _).alloc (Nat.le_refl _) _
  have HB0 := Lib.hid hB0
  have hc' := cell_below hB0 hc
  have hc2' := cell_below hB0 hc2
  have n0 : (w.alloc (.cells #[.int .i64 j0, .int .i64 j1, .int .i64 j2] 72)).cell? ⟨w.heap.size, 0, none⟩ = some (.int .i64 j0) := by go_simp
  have n1 : (w.alloc (.cells #[.int .i64 j0, .int .i64 j1, .int .i64 j2] 72)).cell? ⟨w.heap.size, 1, none⟩ = some (.int .i64 j1) := by go_simp
  have n2 : (w.alloc (.cells #[.int .i64 j0, .int .i64 j1, .int .i64 j2] 72)).cell? ⟨w.heap.size, 2, none⟩ = some (.int .i64 j2) := by go_simp
  clear hB0 hc hc2
  generalize hCH : w.alloc (.cells #[.int .i64 j0, .int .i64 j1, .int .i64 j2] 72) = W at *
  cases B
  · go_enter Try.func80, Try.ntmps80
    go_wp2_with (go_at_call 81; refine (HJ.out _).mono ?_; rintro e w1 ⟨rfl, hb1⟩; have HB1 := Lib.hid (HB0.out.trans (hb1.mono HB0.out.size)); clear hb1)
    go_ret
    exact ⟨rfl, HB1.out⟩
  · go_enter Try.func80, Try.ntmps80
    go_wp2_with fail
    refine (HJ.out _).mono ?_
    rintro e w1 ⟨rfl, hb1⟩
    replace n0 := cell_below hb1 n0
    replace n1 := cell_below hb1 n1
    replace n2 := cell_below hb1 n2
    replace hc2' := cell_below hb1 hc2'
    have HB1 := Lib.hid (HB0.out.trans (hb1.mono HB0.out.size))
    clear hb1
    go_wp2_with fail
    refine (HJ2.out _).mono ?_
    rintro e w2 ⟨rfl, hb2⟩
    have HB2 := Lib.hid (HB1.out.trans (hb2.mono HB1.out.size))
    clear hb2
    go_wp2
    go_ret
    exact ⟨by simp, HB2.out⟩
set_option maxHeartbeats 1000000 in
theorem triangles_at (pv pv' : Nat) (pl pc tl tc : Nat) (pa ta : Option Addr) (ts : List (List Int)) (p p' : Int) (w : World) (ht : IsTs w ta tl tc ts) (h3 : ∀ k, k < tl → (ts.getD k []).length = 3) (hlen : tl ≤ 128) (hc : w.cell? ⟨pv, 0, none⟩ = some (.int .i64 p)) (hc2 : w.cell? ⟨pv', 0, none⟩ = some (.int .i64 p')) :
    Calls Try.prog 79 #[.agg #[.slice pa pl pc, .slice ta tl tc], .func (.func 80) #[] #[.pointer (some ⟨pv, 0, none⟩), .pointer (some ⟨pv', 0, none⟩)]] w fun e w' => ∃ v, e = .returned v ∧ w'.ownsRow w.heap.size 2 1 v (atL ts p p' tl).length ((atL ts p p' tl).map (Value.int .i64)) ∧ Below w.heap.size w w' := by
  have ui := Try.underlying30
  have uc := Try.underlying72
  obtain ⟨i0, hi, hz0, hz1, hz2⟩ := info_parts info64
  have hB0 : Below w.heap.size w (w.alloc (.cells #[.slice pa pl pc, .slice ta tl tc] 30)) := (Below.refl _ _).alloc (Nat.le_refl _) _
  have hA := all_corners pa ta pl pc tl tc ts _ (ht.below hB0) h3 hlen
  obtain ⟨cb, hcb⟩ : ∃ cb, cb = (w.alloc (.cells #[.slice pa pl pc, .slice ta tl tc] 30)).heap.size + 1 := ⟨_, rfl⟩
  rw [← hcb] at hA
  have HA := Lib.hid hA
  have HB0 := Lib.hid hB0
  have HC := Lib.hid hc
  have HC2 := Lib.hid hc2
  clear ht h3 hc hc2 hB0 hcb hA
  go_enter Try.func79, Try.ntmps79
  go_wp2_with (go_at_call 64; refine HA.out.mono ?_; rintro e w1 ⟨rfl, hcs, hb1, hs1⟩; have HCS := Lib.hid hcs; have HB1 := Lib.hid (HB0.out.trans (hb1.mono HB0.out.size)); clear hcs hb1 hs1 HA)
  have HC1 := Lib.hid (cell_below HB1.out HC.out)
  have HC12 := Lib.hid (cell_below HB1.out HC2.out)
  go_loopw [5, 11] (fun v i w' => ∃ k : Nat, k ≤ tl ∧ i = .int .i64 k ∧ Aside (w'.ownsRow w1.heap.size 2 1 v (atL ts p p' k).length ((atL ts p p' k).map (Value.int .i64)) ∧ Below w1.heap.size w1 w')) (fun _ i _ => tl - (intOf i).toNat)
  case atStart => exact ⟨0, Nat.zero_le _, rfl, World.ownsRow_nil _ _ _ _, Below.refl _ _⟩
  case round =>
    obtain ⟨k, hk, hik, hA⟩ := hrel
    subst hik
    obtain ⟨hown, hB⟩ := hA.out
    have HB := Lib.hid hB
    have HOWN := Lib.hid hown
    by_cases hlt : k < tl
    · obtain ⟨z0, z1, z2⟩ := (HCS.out.below hB) k hlt
      have lb := World.block_lt_of_cell? _ _ z0
      have hk0 : (0 : Int) ≤ (k : Int) := by omega
      have hk1 : (k : Int) < (tl : Int) := by omega
      have hal := atL_len ts p p' k
      have hJ := fun w' hc' hc2' => clo_at (ts.getD k []) p p' pv pv' w' hc' hc2'
      have HY := Lib.hid (@atL_both ts p p' k)
      have HN := Lib.hid (@atL_no ts p p' k)
      have HCr := Lib.hid (cell_below hB HC1.out)
      have HCr2 := Lib.hid (cell_below hB HC12.out)
      have hbz := Lib.hid hB.size
      generalize (hasB (ts.getD k []) p && hasB (ts.getD k []) p') = bb at *
      generalize (ts.getD k []).getD 0 0 = j0 at *
      generalize (ts.getD k []).getD 1 0 = j1 at *
      generalize (ts.getD k []).getD 2 0 = j2 at *
      have HJ := Lib.hid hJ
      clear hA hB hown hJ
      have HG := Lib.hid ((Below.refl wr.heap.size wr).alloc (Nat.le_refl _) (.cells #[.int .i64 j0, .int .i64 j1, .int .i64 j2] 72))
      cases bb
      · have HN' := Lib.hid (HN.out rfl)
        clear HN HY
        go_wp2_with (go_at_call 80; refine (HJ.out _ (cell_below HG.out HCr.out) (cell_below HG.out HCr2.out)).mono ?_; rintro e w2 ⟨rfl, hb2⟩; have HB2 := Lib.hid (HG.out.trans (hb2.mono HG.out.size)); clear hb2)
        go_roundw
        case rel => exact ⟨k + 1, by omega, by go_num, by rw [HN'.out]; exact owns_below HOWN.out HB2.out, HB.out.trans (HB2.out.mono hbz.out)⟩
        case measure => simp [intOf]; omega
      · have HY' := Lib.hid (HY.out rfl)
        clear HN HY
        go_wp2_with (first
          | (go_at_call 80; refine (HJ.out _ (cell_below HG.out HCr.out) (cell_below HG.out HCr2.out)).mono ?_; rintro e w2 ⟨rfl, hb2⟩; have HB2 := Lib.hid (HG.out.trans (hb2.mono HG.out.size)); clear hb2)
          | (at_builtin; refine wpList_append_own _ rfl _ _ 43 rfl w1.heap.size 2 i0 (.int .i64 0) 1 8 Try.underlying43 hi hz0 hz1 hz2 rfl (by decide) _ _ _ rfl ((owns_below HOWN.out HB2.out).alloc _) ⟨w2.heap.size, 0, none⟩ 1 1 [.int .i64 (k : Int)] rfl rfl ?c1 ?c2 ?c3 ?c4 ?c5 ?_))
        case c1 =>
          intro j u hj
          match j, hj with
          | 0, hj => simp at hj; subst hj; simp [Addr.add]
        case c2 => intro u hu; simp at hu; subst hu; rfl
        case c3 => unfold maxLen; omega
        case c4 => omega
        case c5 => have := hbz.out; have := HB2.out.size; simp; omega
        · intro v' w3 hown' hgrow _
          have hB2 : Below w1.heap.size w1 w2 := HB.out.trans (HB2.out.mono hbz.out)
          have hB3 : Below w1.heap.size w1 (w2.alloc (.cells #[.int .i64 (k : Int)] 2)) := hB2.alloc hB2.size _
          have HB3 := Lib.hid (hB3.grown hgrow hB3.size (fun k hk => ((owns_below HOWN.out HB2.out).lt k hk).1))
          have HO3 := Lib.hid hown'
          clear hown' hgrow hB2 hB3
          go_wp2
          go_roundw
          case rel => exact ⟨k + 1, by omega, by go_num, by rw [HY'.out]; simpa using HO3.out, HB3.out⟩
          case measure => simp [intOf]; omega
    · obtain rfl : k = tl := by omega
      clear hA hB hown
      go_wp2
      go_ret
      exact ⟨_, rfl, owns_mono HOWN.out HB1.out.size, HB1.out.trans (HB.out.mono HB1.out.size)⟩
/-- What is answered: the triangles of two places, if the mesh is valid and has them. -/
def tatB (cs : List C3) (ts : List (List Int)) (i i' : Int) : Bool := validB cs ts && (inB cs.length i && (inB cs.length i' && decide (i ≠ i')))
def tatL (cs : List C3) (ts : List (List Int)) (i i' : Int) : List Int := bif tatB cs ts i i' then atL ts i i' ts.length else []
set_option maxHeartbeats 1000000 in
theorem impl_TrianglesAt (pa ta : Option Addr) (pl pc tl tc : Nat) (cs : List C3) (ts : List (List Int)) (i i' : Int) (w : World) (hp : IsVs w pa pl pc cs) (ht : IsTs w ta tl tc ts) :
    Calls Try.prog 34 #[.agg #[.slice pa pl pc, .slice ta tl tc], .int .i64 i, .int .i64 i'] w fun e w' => ∃ v, e = .returned (.tuple #[v, .bool (tatB cs ts i i')]) ∧ w'.ownsRow w.heap.size 2 1 v (tatL cs ts i i').length ((tatL cs ts i i').map (Value.int .i64)) ∧ Below w.heap.size w w' := by
  have ui := Try.underlying30
  have hB0 : Below w.heap.size w (((w.alloc (.cells #[.slice pa pl pc, .slice ta tl tc] 30)).alloc (.cells #[.int .i64 i] 2)).alloc (.cells #[.int .i64 i'] 2)) := (((Below.refl _ _).alloc (Nat.le_refl _) _).alloc (by simp) _).alloc (by simp <;> omega) _
  have kb1 : (((w.alloc (.cells #[.slice pa pl pc, .slice ta tl tc] 30)).alloc (.cells #[.int .i64 i] 2)).alloc (.cells #[.int .i64 i'] 2)).cell? ⟨w.heap.size, 1, none⟩ = some (.slice ta tl tc) := by go_simp
  have kb0 : (((w.alloc (.cells #[.slice pa pl pc, .slice ta tl tc] 30)).alloc (.cells #[.int .i64 i] 2)).alloc (.cells #[.int .i64 i'] 2)).cell? ⟨w.heap.size, 0, none⟩ = some (.slice pa pl pc) := by go_simp
  have kc : (((w.alloc (.cells #[.slice pa pl pc, .slice ta tl tc] 30)).alloc (.cells #[.int .i64 i] 2)).alloc (.cells #[.int .i64 i'] 2)).cell? ⟨w.heap.size + 1, 0, none⟩ = some (.int .i64 i) := by go_simp
  have kd : (((w.alloc (.cells #[.slice pa pl pc, .slice ta tl tc] 30)).alloc (.cells #[.int .i64 i] 2)).alloc (.cells #[.int .i64 i'] 2)).cell? ⟨w.heap.size + 1 + 1, 0, none⟩ = some (.int .i64 i') := by go_simp
  have hJ := impl_ValidMesh _ _ _ _ _ _ cs ts _ (hp.below hB0) (ht.below hB0)
  have hpl := hp.1
  have htl := ht.1
  unfold tatL tatB
  rw [hpl, htl]
  have HT := Lib.hid ht
  cases hv : validB cs ts
  · rw [hv] at hJ
    have HJ := Lib.hid hJ
    have HB0 := Lib.hid hB0
    clear hJ hv hB0 hp ht hpl htl
    generalize hCH : (((w.alloc (.cells #[.slice pa pl pc, .slice ta tl tc] 30)).alloc (.cells #[.int .i64 i] 2)).alloc (.cells #[.int .i64 i'] 2)) = W at *
    go_enter Try.func34, Try.ntmps34
    go_wp2_with (go_at_call 18; refine HJ.out.mono ?_; rintro e w1 ⟨rfl, hB1⟩; replace kb0 := cell_below hB1 kb0; replace kb1 := cell_below hB1 kb1; replace kc := cell_below hB1 kc; replace kd := cell_below hB1 kd; have HB := Lib.hid (HB0.out.trans (hB1.mono HB0.out.size)); clear hB1)
    go_ret2
    exact ⟨_, rfl, World.ownsRow_nil _ _ _ _, HB.out⟩
  · rw [hv] at hJ
    have hlen : tl ≤ 128 := by have := valid_len' hv; omega
    have H3 := Lib.hid (fun k (hk : k < tl) => rows3 hv k (by rw [htl]; exact hk))
    have HJ := Lib.hid hJ
    have HB0 := Lib.hid hB0
    cases h1' : inB pl i
    · clear hJ hv hB0 hp ht hpl htl
      generalize hCH : (((w.alloc (.cells #[.slice pa pl pc, .slice ta tl tc] 30)).alloc (.cells #[.int .i64 i] 2)).alloc (.cells #[.int .i64 i'] 2)) = W at *
      go_enter Try.func34, Try.ntmps34
      go_wp2_with (first | (go_at_call 18; refine HJ.out.mono ?_; rintro e w1 ⟨rfl, hB1⟩; replace kb0 := cell_below hB1 kb0; replace kb1 := cell_below hB1 kb1; replace kc := cell_below hB1 kc; replace kd := cell_below hB1 kd; have HB := Lib.hid (HB0.out.trans (hB1.mono HB0.out.size)); clear hB1) | (go_at_call 78; refine (impl_isIndex _ _ _).mono ?_; rintro e w2 ⟨rfl, hw2⟩; rw [hw2]; first | rw [h1'] | rw [h2']))
      go_ret2
      exact ⟨_, rfl, World.ownsRow_nil _ _ _ _, HB.out⟩
    · cases h2' : inB pl i'
      · clear hJ hv hB0 hp ht hpl htl
        generalize hCH : (((w.alloc (.cells #[.slice pa pl pc, .slice ta tl tc] 30)).alloc (.cells #[.int .i64 i] 2)).alloc (.cells #[.int .i64 i'] 2)) = W at *
        go_enter Try.func34, Try.ntmps34
        go_wp2_with (first | (go_at_call 18; refine HJ.out.mono ?_; rintro e w1 ⟨rfl, hB1⟩; replace kb0 := cell_below hB1 kb0; replace kb1 := cell_below hB1 kb1; replace kc := cell_below hB1 kc; replace kd := cell_below hB1 kd; have HB := Lib.hid (HB0.out.trans (hB1.mono HB0.out.size)); clear hB1) | (go_at_call 78; refine (impl_isIndex _ _ _).mono ?_; rintro e w2 ⟨rfl, hw2⟩; rw [hw2]; first | rw [h1'] | rw [h2']))
        go_ret2
        exact ⟨_, rfl, World.ownsRow_nil _ _ _ _, HB.out⟩
      · by_cases heq : i = i'
        · subst heq
          rw [show (true && (true && (true && decide (i ≠ i)))) = false by simp]
          clear hJ hv hB0 hp ht hpl htl
          generalize hCH : (((w.alloc (.cells #[.slice pa pl pc, .slice ta tl tc] 30)).alloc (.cells #[.int .i64 i] 2)).alloc (.cells #[.int .i64 i] 2)) = W at *
          go_enter Try.func34, Try.ntmps34
          go_wp2_with (first | (go_at_call 18; refine HJ.out.mono ?_; rintro e w1 ⟨rfl, hB1⟩; replace kb0 := cell_below hB1 kb0; replace kb1 := cell_below hB1 kb1; replace kc := cell_below hB1 kc; replace kd := cell_below hB1 kd; have HB := Lib.hid (HB0.out.trans (hB1.mono HB0.out.size)); clear hB1) | (go_at_call 78; refine (impl_isIndex _ _ _).mono ?_; rintro e w2 ⟨rfl, hw2⟩; rw [hw2]; first | rw [h1'] | rw [h2']))
          go_ret2
          exact ⟨_, rfl, World.ownsRow_nil _ _ _ _, HB.out⟩
        · rw [show (true && (true && (true && decide (i ≠ i')))) = true by simp [heq]]
          clear hJ hv hB0 hp ht hpl htl
          have hmf : ∀ (fn : Fn) (first cap : Array Value) (w : World), (Instr.makeFunc fn first cap).run Try.prog w = .ok (.func fn first cap) w := fun _ _ _ _ => rfl
          generalize hCH : (((w.alloc (.cells #[.slice pa pl pc, .slice ta tl tc] 30)).alloc (.cells #[.int .i64 i] 2)).alloc (.cells #[.int .i64 i'] 2)) = W at *
          go_enter Try.func34, Try.ntmps34
          go_wp2_with (first | (go_at_call 18; refine HJ.out.mono ?_; rintro e w1 ⟨rfl, hB1⟩; replace kb0 := cell_below hB1 kb0; replace kb1 := cell_below hB1 kb1; replace kc := cell_below hB1 kc; replace kd := cell_below hB1 kd; have HB := Lib.hid (HB0.out.trans (hB1.mono HB0.out.size)); clear hB1) | (go_at_call 78; refine (impl_isIndex _ _ _).mono ?_; rintro e w2 ⟨rfl, hw2⟩; rw [hw2]; first | rw [h1'] | rw [h2']) | (go_at_call 79; refine (triangles_at (w.heap.size + 1) (w.heap.size + 1 + 1) pl pc tl tc pa ta ts i i' w1 (HT.out.below HB.out) H3.out hlen kc kd).mono ?_; rintro e w3 ⟨v, rfl, hown, hB3⟩; have HO := Lib.hid hown; have HB3 := Lib.hid (HB.out.trans (hB3.mono HB.out.size)); clear hown hB3))
          go_ret2
          exact ⟨v, rfl, owns_mono HO.out HB.out.size, HB3.out⟩
set_option maxHeartbeats 1000000 in
theorem spec_TrianglesAt (pa ta : Option Addr) (pl pc tl tc : Nat) (cs : List C3) (ts : List (List Int)) (i i' : Int) (w : World) (hp : IsVs w pa pl pc cs) (ht : IsTs w ta tl tc ts) :
    Calls Try.prog 33 #[.agg #[.slice pa pl pc, .slice ta tl tc], .int .i64 i, .int .i64 i'] w fun e w' => ∃ v, e = .returned (.tuple #[v, .bool (tatB cs ts i i')]) ∧ w'.ownsRow w.heap.size 2 1 v (tatL cs ts i i').length ((tatL cs ts i i').map (Value.int .i64)) ∧ Below w.heap.size w w' := by
  have ui := Try.underlying30
  have hB0 : Below w.heap.size w (w.alloc (.cells #[.slice pa pl pc, .slice ta tl tc] 30)) := (Below.refl _ _).alloc (Nat.le_refl _) _
  have kb1 : (w.alloc (.cells #[.slice pa pl pc, .slice ta tl tc] 30)).cell? ⟨w.heap.size, 1, none⟩ = some (.slice ta tl tc) := by go_simp
  have kb0 : (w.alloc (.cells #[.slice pa pl pc, .slice ta tl tc] 30)).cell? ⟨w.heap.size, 0, none⟩ = some (.slice pa pl pc) := by go_simp
  have hJ := (l02Is w.heap.size pa ta pl pc tl tc cs ts _ kb0 kb1 (hp.below hB0) (ht.below hB0)).mono (R' := fun e w' => e = .returned (.bool (validB cs ts)) ∧ Below (w.alloc (.cells #[.slice pa pl pc, .slice ta tl tc] 30)).heap.size (w.alloc (.cells #[.slice pa pl pc, .slice ta tl tc] 30)) w') fun _ _ ⟨he, n, hw⟩ => ⟨he, by rw [hw]; exact below_drewN (Below.refl _ _) n⟩
  have hpm : pl ≤ 9223372036854775807 := by have h1 := hp.2.1; have h2 := hp.2.2.1; unfold maxLen at h2; omega
  have hpl := hp.1
  have htl := ht.1
  unfold tatL tatB
  rw [hpl, htl]
  have HT := Lib.hid ht
  cases hv : validB cs ts
  · rw [hv] at hJ
    have HJ := Lib.hid hJ
    have HB0 := Lib.hid hB0
    clear hJ hv hB0 hp ht hpl htl
    generalize hCH : (w.alloc (.cells #[.slice pa pl pc, .slice ta tl tc] 30)) = W at *
    go_enter Try.func33, Try.ntmps33
    go_wp2_with (go_at_call 52; refine HJ.out.mono ?_; rintro e w1 ⟨rfl, hB1⟩; replace kb0 := cell_below hB1 kb0; replace kb1 := cell_below hB1 kb1; have HB := Lib.hid (HB0.out.trans (hB1.mono HB0.out.size)); clear hB1)
    go_ret2
    exact ⟨_, rfl, World.ownsRow_nil _ _ _ _, HB.out⟩
  · rw [hv] at hJ
    have hlen : tl ≤ 128 := by have := valid_len' hv; omega
    have H3 := Lib.hid (fun k (hk : k < tl) => rows3 hv k (by rw [htl]; exact hk))
    have HJ := Lib.hid hJ
    have HB0 := Lib.hid hB0
    cases h1' : inB pl i
    · clear hJ hv hB0 hp ht hpl htl
      generalize hCH : (w.alloc (.cells #[.slice pa pl pc, .slice ta tl tc] 30)) = W at *
      go_enter Try.func33, Try.ntmps33
      go_wp2_with (first | (go_at_call 52; refine HJ.out.mono ?_; rintro e w1 ⟨rfl, hB1⟩; replace kb0 := cell_below hB1 kb0; replace kb1 := cell_below hB1 kb1; have HB := Lib.hid (HB0.out.trans (hB1.mono HB0.out.size)); clear hB1) | (go_at_call 76; refine (l02Place _ _ _ _ _ _ kb0 hpm).mono ?_; rintro e w2 ⟨rfl, hw2⟩; rw [hw2]; first | rw [h1'] | rw [h2']))
      go_ret2
      exact ⟨_, rfl, World.ownsRow_nil _ _ _ _, HB.out⟩
    · cases h2' : inB pl i'
      · clear hJ hv hB0 hp ht hpl htl
        generalize hCH : (w.alloc (.cells #[.slice pa pl pc, .slice ta tl tc] 30)) = W at *
        go_enter Try.func33, Try.ntmps33
        go_wp2_with (first | (go_at_call 52; refine HJ.out.mono ?_; rintro e w1 ⟨rfl, hB1⟩; replace kb0 := cell_below hB1 kb0; replace kb1 := cell_below hB1 kb1; have HB := Lib.hid (HB0.out.trans (hB1.mono HB0.out.size)); clear hB1) | (go_at_call 76; refine (l02Place _ _ _ _ _ _ kb0 hpm).mono ?_; rintro e w2 ⟨rfl, hw2⟩; rw [hw2]; first | rw [h1'] | rw [h2']))
        go_ret2
        exact ⟨_, rfl, World.ownsRow_nil _ _ _ _, HB.out⟩
      · by_cases heq : i = i'
        · subst heq
          rw [show (true && (true && (true && decide (i ≠ i)))) = false by simp]
          clear hJ hv hB0 hp ht hpl htl
          generalize hCH : (w.alloc (.cells #[.slice pa pl pc, .slice ta tl tc] 30)) = W at *
          go_enter Try.func33, Try.ntmps33
          go_wp2_with (first | (go_at_call 52; refine HJ.out.mono ?_; rintro e w1 ⟨rfl, hB1⟩; replace kb0 := cell_below hB1 kb0; replace kb1 := cell_below hB1 kb1; have HB := Lib.hid (HB0.out.trans (hB1.mono HB0.out.size)); clear hB1) | (go_at_call 76; refine (l02Place _ _ _ _ _ _ kb0 hpm).mono ?_; rintro e w2 ⟨rfl, hw2⟩; rw [hw2]; first | rw [h1'] | rw [h2']))
          go_ret2
          exact ⟨_, rfl, World.ownsRow_nil _ _ _ _, HB.out⟩
        · rw [show (true && (true && (true && decide (i ≠ i')))) = true by simp [heq]]
          clear hJ hv hB0 hp ht hpl htl
          generalize hCH : (w.alloc (.cells #[.slice pa pl pc, .slice ta tl tc] 30)) = W at *
          go_enter Try.func33, Try.ntmps33
          go_wp2_with (first | (go_at_call 52; refine HJ.out.mono ?_; rintro e w1 ⟨rfl, hB1⟩; replace kb0 := cell_below hB1 kb0; replace kb1 := cell_below hB1 kb1; have HB := Lib.hid (HB0.out.trans (hB1.mono HB0.out.size)); clear hB1) | (go_at_call 76; refine (l02Place _ _ _ _ _ _ kb0 hpm).mono ?_; rintro e w2 ⟨rfl, hw2⟩; rw [hw2]; first | rw [h1'] | rw [h2']) | (go_at_call 77; refine (l02At w.heap.size pl pc tl tc pa ta ts i i' w1 kb0 kb1 (HT.out.below HB.out) H3.out hlen).mono ?_; rintro e w3 ⟨v, rfl, hown, hB3⟩; have HO := Lib.hid hown; have HB3 := Lib.hid (HB.out.trans (hB3.mono HB.out.size)); clear hown hB3))
          go_ret2
          exact ⟨v, rfl, owns_mono HO.out HB.out.size, HB3.out⟩
end Go.Proofs.Ytejgenjafajpnab

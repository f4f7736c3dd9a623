
/-
The triangles of a place: what the program and its model return. Conditions: none beyond that the mesh lies in memory.
-/
import Derived.Test.YtejgenjafajpnabAtD
namespace Go.Proofs.Ytejgenjafajpnab
open Go Fk Go.RowKit
set_option linter.unusedVariables false
set_option maxRecDepth 8000

theorem tri_parts' {n : Nat} {t : List Int} (h : triB n t = true) : t.length = 3 ∧ (∀ i, i < 3 → 0 ≤ t.getD i 0 ∧ (t.getD i 0).toNat < n) := by
  unfold triB at h
  simp only [Bool.and_eq_true, decide_eq_true_eq] at h
  obtain ⟨⟨h3, ⟨h0, h1⟩, h2⟩, _⟩ := h
  refine ⟨h3, fun i hi => ?_⟩
  have a0 := of_decide_eq_true h0
  have a1 := of_decide_eq_true h1
  have a2 := of_decide_eq_true h2
  have : i = 0 ∨ i = 1 ∨ i = 2 := by omega
  rcases this with rfl | rfl | rfl <;> omega
theorem valid_row' {cs : List C3} {ts : List (List Int)} {k : Nat} (h : validB cs ts = true) (hk : k < ts.length) : triB cs.length (ts.getD k []) = true := by
  unfold validB at h
  simp only [Bool.and_eq_true] at h
  have := List.all_eq_true.1 h.2 (ts[k]) (List.getElem_mem hk)
  simpa [List.getD, hk] using this
/-- A corner of a triangle of a valid mesh lies in memory. -/

theorem valid_len' {cs : List C3} {ts : List (List Int)} (h : validB cs ts = true) : ts.length ≤ 128 := by
  unfold validB at h; simp at h; exact h.1.2
theorem rows3 {cs : List C3} {ts : List (List Int)} (h : validB cs ts = true) : ∀ k, k < ts.length → (ts.getD k []).length = 3 := fun k hk => (tri_parts' (valid_row' h hk)).1
/-- What is answered: the triangles of a place, if the mesh is valid and has it. -/
def ofB (cs : List C3) (ts : List (List Int)) (i : Int) : Bool := validB cs ts && inB cs.length i
def ofL (cs : List C3) (ts : List (List Int)) (i : Int) : List Int := bif ofB cs ts i then atL ts i i ts.length else []
set_option maxHeartbeats 400000 in
theorem impl_TrianglesOf (pa ta : Option Addr) (pl pc tl tc : Nat) (cs : List C3) (ts : List (List Int)) (i : Int) (w : World) (hp : IsVs w pa pl pc cs) (ht : IsTs w ta tl tc ts) :
    Calls Try.prog 39 #[.agg #[.slice pa pl pc, .slice ta tl tc], .int .i64 i] w fun e w' => ∃ v, e = .returned (.tuple #[v, .bool (ofB cs ts i)]) ∧ w'.ownsRow w.heap.size 2 1 v (ofL cs ts i).length ((ofL cs ts i).map (Value.int .i64)) ∧ Below w.heap.size w w' := by
  have ui := Try.underlying30
  have hB0 : Below w.heap.size w ((w.alloc (.cells #[.slice pa pl pc, .slice ta tl tc] 30)).alloc (.cells #[.int .i64 i] 2)) := ((Below.refl _ _).alloc (Nat.le_refl _) _).alloc (by simp) _
  have kb1 : ((w.alloc (.cells #[.slice pa pl pc, .slice ta tl tc] 30)).alloc (.cells #[.int .i64 i] 2)).cell? ⟨w.heap.size, 1, none⟩ = some (.slice ta tl tc) := by go_simp
  have kb0 : ((w.alloc (.cells #[.slice pa pl pc, .slice ta tl tc] 30)).alloc (.cells #[.int .i64 i] 2)).cell? ⟨w.heap.size, 0, none⟩ = some (.slice pa pl pc) := by go_simp
  have kc : ((w.alloc (.cells #[.slice pa pl pc, .slice ta tl tc] 30)).alloc (.cells #[.int .i64 i] 2)).cell? ⟨w.heap.size + 1, 0, none⟩ = some (.int .i64 i) := by go_simp
  have hJ := impl_ValidMesh _ _ _ _ _ _ cs ts _ (hp.below hB0) (ht.below hB0)
  have hpl := hp.1
  have htl := ht.1
  unfold ofL ofB
  rw [hpl, htl]
  have HT := Lib.hid ht
  have HTL := Lib.hid htl
  cases hv : validB cs ts
  · rw [hv] at hJ
    have HJ := Lib.hid hJ
    have HB0 := Lib.hid hB0
    clear hJ hv hB0 hp ht hpl htl
    generalize hCH : ((w.alloc (.cells #[.slice pa pl pc, .slice ta tl tc] 30)).alloc (.cells #[.int .i64 i] 2)) = W at *
    go_enter Try.func39, Try.ntmps39
    go_wp2_with (go_at_call 18; refine HJ.out.mono ?_; rintro e w1 ⟨rfl, hB1⟩; replace kb0 := cell_below hB1 kb0; replace kc := cell_below hB1 kc; have HB := Lib.hid (HB0.out.trans (hB1.mono HB0.out.size)); clear hB1)
    go_ret2
    exact ⟨_, rfl, World.ownsRow_nil _ _ _ _, HB.out⟩
  · rw [hv] at hJ
    have hlen : tl ≤ 128 := by have := valid_len' hv; omega
    have H3 := Lib.hid (fun k (hk : k < tl) => rows3 hv k (by rw [htl]; exact hk))
    have HJ := Lib.hid hJ
    have HB0 := Lib.hid hB0
    cases hin : inB pl i
    · clear hJ hv hB0 hp ht hpl htl
      generalize hCH : ((w.alloc (.cells #[.slice pa pl pc, .slice ta tl tc] 30)).alloc (.cells #[.int .i64 i] 2)) = W at *
      go_enter Try.func39, Try.ntmps39
      go_wp2_with (first
        | (go_at_call 18; refine HJ.out.mono ?_; rintro e w1 ⟨rfl, hB1⟩; replace kb0 := cell_below hB1 kb0; replace kc := cell_below hB1 kc; have HB := Lib.hid (HB0.out.trans (hB1.mono HB0.out.size)); clear hB1)
        | (go_at_call 78; refine (impl_isIndex _ _ _).mono ?_; rintro e w2 ⟨rfl, hw2⟩; rw [hw2, hin]))
      go_ret2
      exact ⟨_, rfl, World.ownsRow_nil _ _ _ _, HB.out⟩
    · clear hJ hv hB0 hp ht hpl htl
      have hmf : ∀ (fn : Fn) (first cap : Array Value) (w : World), (Instr.makeFunc fn first cap).run Try.prog w = .ok (.func fn first cap) w := fun _ _ _ _ => rfl
      generalize hCH : ((w.alloc (.cells #[.slice pa pl pc, .slice ta tl tc] 30)).alloc (.cells #[.int .i64 i] 2)) = W at *
      go_enter Try.func39, Try.ntmps39
      go_wp2_with (first
        | (go_at_call 18; refine HJ.out.mono ?_; rintro e w1 ⟨rfl, hB1⟩; replace kb0 := cell_below hB1 kb0; replace kb1 := cell_below hB1 kb1; replace kc := cell_below hB1 kc; have HB := Lib.hid (HB0.out.trans (hB1.mono HB0.out.size)); clear hB1)
        | (go_at_call 78; refine (impl_isIndex _ _ _).mono ?_; rintro e w2 ⟨rfl, hw2⟩; rw [hw2, hin])
        | (go_at_call 79; refine (triangles_of (w.heap.size + 1) pl pc tl tc pa ta ts i w1 (HT.out.below HB.out) H3.out hlen kc).mono ?_; rintro e w3 ⟨v, rfl, hown, hB3⟩; have HO := Lib.hid hown; have HB3 := Lib.hid (HB.out.trans (hB3.mono HB.out.size)); clear hown hB3))
      go_ret2
      exact ⟨v, rfl, owns_mono HO.out HB.out.size, HB3.out⟩
theorem l02Place (pb pl pc : Nat) (pa : Option Addr) (i : Int) (w : World) (c0 : w.cell? ⟨pb, 0, none⟩ = some (.slice pa pl pc)) (hm : pl ≤ 9223372036854775807) :
    Calls Try.prog 76 #[.pointer (some ⟨pb, 0, none⟩), .int .i64 i] w fun e w' => e = .returned (.bool (inB pl i)) ∧ w' = w := by
  have ui := Try.underlying30
  have htw : IntKind.i64.wrap ((pl : Int) - 1) = (pl : Int) - 1 := IntWalk.i64_in _ (by omega)
  go_enter Try.func76, Try.ntmps76
  go_wp2_with (go_at_call 108; refine (l00In _ _ _).mono ?_; rintro e w2 ⟨rfl, hw2⟩; rw [hw2])
  go_ret
  exact ⟨rfl, by first | rfl | trivial⟩
set_option maxHeartbeats 400000 in
theorem spec_TrianglesOf (pa ta : Option Addr) (pl pc tl tc : Nat) (cs : List C3) (ts : List (List Int)) (i : Int) (w : World) (hp : IsVs w pa pl pc cs) (ht : IsTs w ta tl tc ts) :
    Calls Try.prog 38 #[.agg #[.slice pa pl pc, .slice ta tl tc], .int .i64 i] w fun e w' => ∃ v, e = .returned (.tuple #[v, .bool (ofB cs ts i)]) ∧ w'.ownsRow w.heap.size 2 1 v (ofL cs ts i).length ((ofL cs ts i).map (Value.int .i64)) ∧ Below w.heap.size w w' := by
  have ui := Try.underlying30
  have hB0 : Below w.heap.size w (w.alloc (.cells #[.slice pa pl pc, .slice ta tl tc] 30)) := (Below.refl _ _).alloc (Nat.le_refl _) _
  have kb1 : (w.alloc (.cells #[.slice pa pl pc, .slice ta tl tc] 30)).cell? ⟨w.heap.size, 1, none⟩ = some (.slice ta tl tc) := by go_simp
  have kb0 : (w.alloc (.cells #[.slice pa pl pc, .slice ta tl tc] 30)).cell? ⟨w.heap.size, 0, none⟩ = some (.slice pa pl pc) := by go_simp
  have hJ := (l02Is w.heap.size pa ta pl pc tl tc cs ts _ kb0 kb1 (hp.below hB0) (ht.below hB0)).mono (R' := fun e w' => e = .returned (.bool (validB cs ts)) ∧ Below (w.alloc (.cells #[.slice pa pl pc, .slice ta tl tc] 30)).heap.size (w.alloc (.cells #[.slice pa pl pc, .slice ta tl tc] 30)) w') fun _ _ ⟨he, n, hw⟩ => ⟨he, by rw [hw]; exact below_drewN (Below.refl _ _) n⟩
  have hpm : pl ≤ 9223372036854775807 := by have h1 := hp.2.1; have h2 := hp.2.2.1; unfold maxLen at h2; omega
  have hpl := hp.1
  have htl := ht.1
  unfold ofL ofB
  rw [hpl, htl]
  have HT := Lib.hid ht
  cases hv : validB cs ts
  · rw [hv] at hJ
    have HJ := Lib.hid hJ
    have HB0 := Lib.hid hB0
    clear hJ hv hB0 hp ht hpl htl
    generalize hCH : (w.alloc (.cells #[.slice pa pl pc, .slice ta tl tc] 30)) = W at *
    go_enter Try.func38, Try.ntmps38
    go_wp2_with (go_at_call 52; refine HJ.out.mono ?_; rintro e w1 ⟨rfl, hB1⟩; have HB := Lib.hid (HB0.out.trans (hB1.mono HB0.out.size)); clear hB1)
    go_ret2
    exact ⟨_, rfl, World.ownsRow_nil _ _ _ _, HB.out⟩
  · rw [hv] at hJ
    have hlen : tl ≤ 128 := by have := valid_len' hv; omega
    have H3 := Lib.hid (fun k (hk : k < tl) => rows3 hv k (by rw [htl]; exact hk))
    have HJ := Lib.hid hJ
    have HB0 := Lib.hid hB0
    cases hin : inB pl i
    · clear hJ hv hB0 hp ht hpl htl
      generalize hCH : (w.alloc (.cells #[.slice pa pl pc, .slice ta tl tc] 30)) = W at *
      go_enter Try.func38, Try.ntmps38
      go_wp2_with (first
        | (go_at_call 52; refine HJ.out.mono ?_; rintro e w1 ⟨rfl, hB1⟩; replace kb0 := cell_below hB1 kb0; have HB := Lib.hid (HB0.out.trans (hB1.mono HB0.out.size)); clear hB1)
        | (go_at_call 76; refine (l02Place _ _ _ _ _ _ kb0 hpm).mono ?_; rintro e w2 ⟨rfl, hw2⟩; rw [hw2, hin]))
      go_ret2
      exact ⟨_, rfl, World.ownsRow_nil _ _ _ _, HB.out⟩
    · clear hJ hv hB0 hp ht hpl htl
      generalize hCH : (w.alloc (.cells #[.slice pa pl pc, .slice ta tl tc] 30)) = W at *
      go_enter Try.func38, Try.ntmps38
      go_wp2_with (first
        | (go_at_call 52; refine HJ.out.mono ?_; rintro e w1 ⟨rfl, hB1⟩; replace kb0 := cell_below hB1 kb0; replace kb1 := cell_below hB1 kb1; have HB := Lib.hid (HB0.out.trans (hB1.mono HB0.out.size)); clear hB1)
        | (go_at_call 76; refine (l02Place _ _ _ _ _ _ kb0 hpm).mono ?_; rintro e w2 ⟨rfl, hw2⟩; rw [hw2, hin])
        | (go_at_call 77; refine (l02At w.heap.size pl pc tl tc pa ta ts i i w1 kb0 kb1 (HT.out.below HB.out) H3.out hlen).mono ?_; rintro e w3 ⟨v, rfl, hown, hB3⟩; have HO := Lib.hid hown; have HB3 := Lib.hid (HB.out.trans (hB3.mono HB.out.size)); clear hown hB3))
      go_ret2
      exact ⟨v, rfl, owns_mono HO.out HB.out.size, HB3.out⟩
end Go.Proofs.Ytejgenjafajpnab

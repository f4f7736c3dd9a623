/-
Texts in one: what MovePlaces stands on, part 24. Conditions: those of each.
-/
import Derived.Test.YtmbekamnogbgaaaKMovePlaces23

/-
Normals: all arguments, of the program and of its model. Conditions: none beyond that the mesh lies in memory.
-/
namespace Go.Proofs.Ytmbekamnogbgaaa
open Go Fk Go.RowKit
set_option linter.unusedVariables false
set_option maxRecDepth 8000

end Go.Proofs.Ytmbekamnogbgaaa


/-
Normals: all arguments, of the model. Conditions: none beyond that the mesh lies in memory.
-/
namespace Go.Proofs.Ytmbekamnogbgaaa
open Go Fk Go.RowKit
set_option linter.unusedVariables false
set_option maxRecDepth 8000

theorem l02IsB (pb : Nat) (pa ta : Option Addr) (pl pc tl tc : Nat) (cs : List C3) (ts : List (List Int)) (w : World) (c0 : w.cell? ⟨pb, 0, none⟩ = some (.slice pa pl pc)) (c1 : w.cell? ⟨pb, 1, none⟩ = some (.slice ta tl tc)) (hp : IsVs w pa pl pc cs) (ht : IsTs w ta tl tc ts) :
    Calls Try.prog 71 #[.pointer (some ⟨pb, 0, none⟩)] w fun e w' => e = .returned (.bool (validB cs ts)) ∧ Below w.heap.size w w' :=
  (l02Is pb pa ta pl pc tl tc cs ts w c0 c1 hp ht).mono fun _ _ ⟨he, n, hw⟩ => ⟨he, by rw [hw]; exact below_drewN (Below.refl _ _) n⟩
end Go.Proofs.Ytmbekamnogbgaaa


/-
A bare body: what the program and its model return. Conditions: the mesh lies in memory.
-/
namespace Go.Proofs.Ytmbekamnogbgaaa
open Go Fk Go.RowKit
set_option linter.unusedVariables false
set_option maxRecDepth 8000

theorem nil_gb (lo hi F : Nat) (w : World) : GB lo hi w nilB F :=
  ⟨⟨.inl ⟨rfl, rfl⟩, .inl ⟨rfl, rfl⟩, fun P e => by cases e⟩, .inl ⟨rfl, rfl⟩, .inl ⟨rfl, rfl⟩, fun X e => (by cases e), fun X e => (by cases e)⟩
theorem bar_len (cs : List C3) (ts : List (List Int)) : (barO cs ts).cs.length ≤ 64 ∧ (barO cs ts).ts.length ≤ 128 ∧ (barO cs ts).ss.length = 0 ∧ (barO cs ts).zs.length ≤ 64 ∧ ∀ k, k < (barO cs ts).ts.length → ((barO cs ts).ts.getD k []).length ≤ 1048576 := by
  unfold barO
  cases hv : validB cs ts
  · exact ⟨Nat.zero_le _, Nat.zero_le _, rfl, Nat.zero_le _, fun k hk => absurd hk (Nat.not_lt_zero k)⟩
  · obtain ⟨h1, h2⟩ := valid_pl hv
    refine ⟨h1, h2, rfl, ?_, fun k hk => ?_⟩
    · show (List.replicate cs.length 0).length ≤ 64
      rw [List.length_replicate]; exact h1
    · show (ts.getD k []).length ≤ 1048576
      have := rows3h hv k hk
      omega
theorem GB.wide {lo hi lo' hi' F : Nat} {w : World} {B : Bd} (h : GB lo hi w B F) (h1 : lo' ≤ lo) (h2 : hi ≤ hi') : GB lo' hi' w B F :=
  ⟨h.1.widen h1 h2, lst_widen h.2.1 h1 h2, lst_widen h.2.2.1 h1 h2, h.2.2.2⟩
set_option maxHeartbeats 2000000 in
theorem spec_BareBody (pa ta : Option Addr) (pl pc tl tc : Nat) (cs : List C3) (ts : List (List Int)) (w : World) (hp : IsVs w pa pl pc cs) (ht : IsTs w ta tl tc ts) :
    Calls Try.prog 16 #[.agg #[.slice pa pl pc, .slice ta tl tc]] w fun e w' => (∃ B' : Bd, e = .returned (.tuple #[B'.v, .bool (validB cs ts)]) ∧ IsB w' B' (barO cs ts) ∧ LB w.heap.size w'.heap.size w' B') ∧ Below w.heap.size w w' := by
  have ui := Try.underlying36
  have uim := Try.underlying29
  have hpl := hp.1
  have htl := ht.1
  have T0 : Hid (Tc w w.heap.size (w.heap.size + 1) [.slice pa pl pc, .slice ta tl tc] Z9' ((w.alloc (.cells #[.slice pa pl pc, .slice ta tl tc] 29)).alloc (.cells #[.slice none 0 0, .slice none 0 0, .slice none 0 0, .float .f32 0, .float .f32 0, .slice none 0 0, .float .f32 0, .float .f32 0, .float .f32 0] 36))) := Lib.hid
    ⟨At.new.alloc, by
      have := At.new (w := w.alloc (.cells #[.slice pa pl pc, .slice ta tl tc] 29)) (vs := Z9') (t := 36)
      simpa using this, fun i => by go_simp, fun i => by go_simp, ((Below.refl _ _).alloc (Nat.le_refl _) _).alloc (by simp) _, ⟨Nat.le_refl _, by omega, by omega⟩, by simp <;> omega⟩
  have HP := Lib.hid hp
  have HT := Lib.hid ht
  have J := Lib.hid (l02IsB w.heap.size pa ta pl pc tl tc cs ts _ (T0.out.out 0 _ rfl) (T0.out.out 1 _ rfl) (hp.below T0.out.bel) (ht.below T0.out.bel))
  unfold barO
  clear hp ht
  cases hv : validB cs ts
  · rw [hv] at J
    clear hv
    go_enter Try.func16, Try.ntmps16
    go_wp2_with fail
    generalize ((w.alloc (.cells #[.slice pa pl pc, .slice ta tl tc] 29)).alloc (.cells #[.slice none 0 0, .slice none 0 0, .slice none 0 0, .float .f32 0, .float .f32 0, .slice none 0 0, .float .f32 0, .float .f32 0, .float .f32 0] 36)) = W at *
    refine J.out.mono ?_
    rintro e w2 ⟨rfl, hB1⟩
    have T2 := Lib.hid (T0.out.call hB1)
    clear hB1
    have q0 := T2.out.res 0 _ rfl
    have p0 := T2.out.fr 0
    have q1 := T2.out.res 1 _ rfl
    have p1 := T2.out.fr 1
    have q2 := T2.out.res 2 _ rfl
    have p2 := T2.out.fr 2
    have q3 := T2.out.res 3 _ rfl
    have p3 := T2.out.fr 3
    have q4 := T2.out.res 4 _ rfl
    have p4 := T2.out.fr 4
    have q5 := T2.out.res 5 _ rfl
    have p5 := T2.out.fr 5
    have q6 := T2.out.res 6 _ rfl
    have p6 := T2.out.fr 6
    have q7 := T2.out.res 7 _ rfl
    have p7 := T2.out.fr 7
    have q8 := T2.out.res 8 _ rfl
    have p8 := T2.out.fr 8
    obtain ⟨hR, hBB⟩ := T2.out.fin (vs' := nilB.l) rfl
    have hA := Agree.setL (Sy.res (bo := w.heap.size) (br := w.heap.size + 1)) nilB.l _ 0 (Agree.refl (Sy w.heap.size (w.heap.size + 1)) w2)
    simp only [setL, nilB, Nat.zero_add, Nat.reduceAdd] at hR hBB hA
    have HR := Lib.hid hR
    have HBB := Lib.hid hBB
    have HA := Lib.hid hA
    clear hR hBB hA
    go_wp2
    clear q0 q1 q2 q3 q4 q5 q6 q7 q8 p0 p1 p2 p3 p4 p5 p6 p7 p8
    have m0 := HR.out 0 _ rfl
    have m1 := HR.out 1 _ rfl
    have m2 := HR.out 2 _ rfl
    have m3 := HR.out 3 _ rfl
    have m4 := HR.out 4 _ rfl
    have m5 := HR.out 5 _ rfl
    have m6 := HR.out 6 _ rfl
    have m7 := HR.out 7 _ rfl
    have m8 := HR.out 8 _ rfl
    refine bodyPost_ret (v := .tuple #[nilB.v, .bool false]) (by simp [results, Try.results16, go_sem, nilB, m0, m1, m2, m3, m4, m5, m6, m7, m8]) rfl ?_
    exact ⟨⟨nilB, rfl, nil_isb _, nil_lb _ _ _⟩, HBB.out⟩
  · rw [hv] at J
    obtain ⟨q1, q2⟩ := valid_pl hv
    have H3 := Lib.hid (fun k (hk : k < tl) => show (ts.getD k []).length ≤ 1000 by have := rows3h hv k (by rw [htl]; exact hk); omega)
    clear hv
    go_enter Try.func16, Try.ntmps16
    go_wp2_with fail
    generalize ((w.alloc (.cells #[.slice pa pl pc, .slice ta tl tc] 29)).alloc (.cells #[.slice none 0 0, .slice none 0 0, .slice none 0 0, .float .f32 0, .float .f32 0, .slice none 0 0, .float .f32 0, .float .f32 0, .float .f32 0] 36)) = W at *
    refine J.out.mono ?_
    rintro e w1 ⟨rfl, hB1⟩
    have T1 := Lib.hid (T0.out.call hB1)
    clear hB1
    go_wp2_with fail
    refine (l03Bare w.heap.size pa ta pl pc tl tc cs ts w1 (T1.out.out 0 _ rfl) (T1.out.out 1 _ rfl) (HP.out.below T1.out.bel) (HT.out.below T1.out.bel) (by omega) (by omega) H3.out).mono ?_
    rintro e w2 ⟨B', rfl, hI, hL, hB2⟩
    have T2 := Lib.hid (T1.out.call hB2)
    have M := Lib.hid (And.intro hI hL)
    have hlt := T1.out.lt
    clear hI hL hB2
    have q0 := T2.out.res 0 _ rfl
    have p0 := T2.out.fr 0
    have q1 := T2.out.res 1 _ rfl
    have p1 := T2.out.fr 1
    have q2 := T2.out.res 2 _ rfl
    have p2 := T2.out.fr 2
    have q3 := T2.out.res 3 _ rfl
    have p3 := T2.out.fr 3
    have q4 := T2.out.res 4 _ rfl
    have p4 := T2.out.fr 4
    have q5 := T2.out.res 5 _ rfl
    have p5 := T2.out.fr 5
    have q6 := T2.out.res 6 _ rfl
    have p6 := T2.out.fr 6
    have q7 := T2.out.res 7 _ rfl
    have p7 := T2.out.fr 7
    have q8 := T2.out.res 8 _ rfl
    have p8 := T2.out.fr 8
    obtain ⟨hR, hBB⟩ := T2.out.fin (vs' := B'.l) rfl
    have hA := Agree.setL (Sy.res (bo := w.heap.size) (br := w.heap.size + 1)) B'.l _ 0 (Agree.refl (Sy w.heap.size (w.heap.size + 1)) w2)
    simp only [setL, Nat.zero_add, Nat.reduceAdd] at hR hBB hA
    have HR := Lib.hid hR
    have HBB := Lib.hid hBB
    have HA := Lib.hid hA
    clear hR hBB hA
    go_wp2
    clear q0 q1 q2 q3 q4 q5 q6 q7 q8 p0 p1 p2 p3 p4 p5 p6 p7 p8
    have m0 := HR.out 0 _ rfl
    have m1 := HR.out 1 _ rfl
    have m2 := HR.out 2 _ rfl
    have m3 := HR.out 3 _ rfl
    have m4 := HR.out 4 _ rfl
    have m5 := HR.out 5 _ rfl
    have m6 := HR.out 6 _ rfl
    have m7 := HR.out 7 _ rfl
    have m8 := HR.out 8 _ rfl
    refine bodyPost_ret (v := .tuple #[B'.v, .bool true]) (by simp [results, Try.results16, go_sem, m0, m1, m2, m3, m4, m5, m6, m7, m8]) rfl ?_
    have hs : ∀ q, w1.heap.size ≤ q → q < w2.heap.size → Sy w.heap.size (w.heap.size + 1) q := Sy.new hlt.1 hlt.2
    exact ⟨⟨B', rfl, M.out.1.agree M.out.2 hs HA.out, (M.out.2.agree hs HA.out).wide (by omega) HA.out.size⟩, HBB.out⟩
/-- The bare body before it is copied. -/
def bareB (pa ta : Option Addr) (pl pc tl tc g : Nat) : Bd := ⟨pa, ta, none, some ⟨g, 0, none⟩, pl, pc, tl, tc, 0, 0, pl, pl, 0, 0, 0, 0, 0⟩
set_option maxHeartbeats 4000000 in
theorem impl_BareBody (pa ta : Option Addr) (pl pc tl tc : Nat) (cs : List C3) (ts : List (List Int)) (w : World) (hp : IsVs w pa pl pc cs) (ht : IsTs w ta tl tc ts) :
    Calls Try.prog 18 #[.agg #[.slice pa pl pc, .slice ta tl tc]] w fun e w' => (∃ (B' : Bd) (F : Nat), e = .returned (.tuple #[B'.v, .bool (validB cs ts)]) ∧ IsB w' B' (barO cs ts) ∧ GB w.heap.size w'.heap.size w' B' F) ∧ Below w.heap.size w w' := by
  have ui := Try.underlying36
  have uim := Try.underlying29
  have hpl := hp.1
  have htl := ht.1
  have T0 : Hid (Tc w w.heap.size (w.heap.size + 1) [.slice pa pl pc, .slice ta tl tc] Z9' ((w.alloc (.cells #[.slice pa pl pc, .slice ta tl tc] 29)).alloc (.cells #[.slice none 0 0, .slice none 0 0, .slice none 0 0, .float .f32 0, .float .f32 0, .slice none 0 0, .float .f32 0, .float .f32 0, .float .f32 0] 36))) := Lib.hid
    ⟨At.new.alloc, by
      have := At.new (w := w.alloc (.cells #[.slice pa pl pc, .slice ta tl tc] 29)) (vs := Z9') (t := 36)
      simpa using this, fun i => by go_simp, fun i => by go_simp, ((Below.refl _ _).alloc (Nat.le_refl _) _).alloc (by simp) _, ⟨Nat.le_refl _, by omega, by omega⟩, by simp <;> omega⟩
  have HP := Lib.hid hp
  have HT := Lib.hid ht
  have J := Lib.hid (impl_ValidMesh pa ta pl pc tl tc cs ts _ (hp.below T0.out.bel) (ht.below T0.out.bel))
  unfold barO
  clear hp ht
  cases hv : validB cs ts
  · rw [hv] at J
    clear hv
    go_enter Try.func18, Try.ntmps18
    go_wp2_with fail
    generalize ((w.alloc (.cells #[.slice pa pl pc, .slice ta tl tc] 29)).alloc (.cells #[.slice none 0 0, .slice none 0 0, .slice none 0 0, .float .f32 0, .float .f32 0, .slice none 0 0, .float .f32 0, .float .f32 0, .float .f32 0] 36)) = W at *
    refine J.out.mono ?_
    rintro e w2 ⟨rfl, hB1⟩
    have T2 := Lib.hid (T0.out.call hB1)
    clear hB1
    have q0 := T2.out.res 0 _ rfl
    have p0 := T2.out.fr 0
    have q1 := T2.out.res 1 _ rfl
    have p1 := T2.out.fr 1
    have q2 := T2.out.res 2 _ rfl
    have p2 := T2.out.fr 2
    have q3 := T2.out.res 3 _ rfl
    have p3 := T2.out.fr 3
    have q4 := T2.out.res 4 _ rfl
    have p4 := T2.out.fr 4
    have q5 := T2.out.res 5 _ rfl
    have p5 := T2.out.fr 5
    have q6 := T2.out.res 6 _ rfl
    have p6 := T2.out.fr 6
    have q7 := T2.out.res 7 _ rfl
    have p7 := T2.out.fr 7
    have q8 := T2.out.res 8 _ rfl
    have p8 := T2.out.fr 8
    obtain ⟨hR, hBB⟩ := T2.out.fin (vs' := nilB.l) rfl
    have hA := Agree.setL (Sy.res (bo := w.heap.size) (br := w.heap.size + 1)) nilB.l _ 0 (Agree.refl (Sy w.heap.size (w.heap.size + 1)) w2)
    simp only [setL, nilB, Nat.zero_add, Nat.reduceAdd] at hR hBB hA
    have HR := Lib.hid hR
    have HBB := Lib.hid hBB
    have HA := Lib.hid hA
    clear hR hBB hA
    go_wp2
    clear q0 q1 q2 q3 q4 q5 q6 q7 q8 p0 p1 p2 p3 p4 p5 p6 p7 p8
    have m0 := HR.out 0 _ rfl
    have m1 := HR.out 1 _ rfl
    have m2 := HR.out 2 _ rfl
    have m3 := HR.out 3 _ rfl
    have m4 := HR.out 4 _ rfl
    have m5 := HR.out 5 _ rfl
    have m6 := HR.out 6 _ rfl
    have m7 := HR.out 7 _ rfl
    have m8 := HR.out 8 _ rfl
    refine bodyPost_ret (v := .tuple #[nilB.v, .bool false]) (by simp [results, Try.results18, go_sem, nilB, m0, m1, m2, m3, m4, m5, m6, m7, m8]) rfl ?_
    exact ⟨⟨nilB, 0, rfl, nil_isb _, nil_gb _ _ _ _⟩, HBB.out⟩
  · rw [hv] at J
    obtain ⟨q1, q2⟩ := valid_pl hv
    have H3 := Lib.hid (fun k (hk : k < tl) => rows3h hv k (by rw [htl]; exact hk))
    clear hv
    go_enter Try.func18, Try.ntmps18
    go_wp2_with fail
    generalize ((w.alloc (.cells #[.slice pa pl pc, .slice ta tl tc] 29)).alloc (.cells #[.slice none 0 0, .slice none 0 0, .slice none 0 0, .float .f32 0, .float .f32 0, .slice none 0 0, .float .f32 0, .float .f32 0, .float .f32 0] 36)) = W at *
    refine J.out.mono ?_
    rintro e w1 ⟨rfl, hB1⟩
    have T1 := Lib.hid (T0.out.call hB1)
    clear hB1
    go_wp2_with fail
    refine Reg6.wp_region_mix (s := 7) (C := fun w' => Below w1.heap.size w1 w') (D := fun a w' => ∃ wp x g, a.eval (.tmp 4) = .pointer (some ⟨x, 0, none⟩) ∧ Below w1.heap.size w1 wp ∧ (w1.heap.size ≤ x ∧ x < wp.heap.size ∧ At wp x Z9') ∧ IsFs .f32 wp (some ⟨g, 0, none⟩) pl pl (List.replicate pl 0) ∧ w' = setL wp x 0 (bareB pa ta pl pc tl tc g).l) (G := fun w1 w2 => Below w1.heap.size w1 w2)
      (Rv := fun i v => match i with | 0 => v = .agg #[.slice pa pl pc, .slice ta tl tc] | 1 => v = .pointer (some ⟨w.heap.size, 0, none⟩) | 2 => v = .slice pa pl pc | 3 => v = .int .i64 pl | _ => True)
      (Rw := fun i v w' => match i with
        | 4 => ∃ g, v = .slice (some ⟨g, 0, none⟩) pl pl ∧ IsFs .f32 w' (some ⟨g, 0, none⟩) pl pl (List.replicate pl 0)
        | 5 => ∃ g, v = (bareB pa ta pl pc tl tc g).v ∧ IsFs .f32 w' (some ⟨g, 0, none⟩) pl pl (List.replicate pl 0)
        | 6 => ∃ x, v = .pointer (some ⟨x, 0, none⟩) ∧ w1.heap.size ≤ x ∧ x < w'.heap.size ∧ At w' x Z9' ∧ ∀ i, w'.frozen? ⟨x, i, none⟩ = false
        | _ => True) [false, false, false, false, true, false, false, false, false, true, true, true, true, true, true, false, false, false, false]
      (by kernel_rfl) (by kernel_rfl) (by kernel_rfl) ?_ (below_drewN (Below.refl _ _) 1) ?_ ?_
    · intro j v w1 w2 hC hG hR
      match j with
      | 0 => trivial
      | 1 => trivial
      | 2 => trivial
      | 3 => trivial
      | 4 => obtain ⟨g, e, h1⟩ := hR; exact ⟨g, e, IsFs_below hG h1⟩
      | 5 => obtain ⟨g, e, h1⟩ := hR; exact ⟨g, e, IsFs_below hG h1⟩
      | 6 => obtain ⟨x, e, h1, h2, h3, h4⟩ := hR; exact ⟨x, e, h1, Nat.lt_of_lt_of_le h2 hG.size, h3.below hG, fun i => by rw [hG.frozen (p := ⟨x, i, none⟩) h2]; exact h4 i⟩
      | _ + 7 => trivial
    · refine ⟨?_, ?_, ?_, ?_, ?_, ?_, ?_, ?_, trivial⟩
      · refine Reg6.Obl.early rfl (by kernel_rfl) ?_
        rintro a wq hC hx hd K hK
        have HC := Lib.hid hC
        clear hC
        have t1 : a.tmps[1]?.getD undef = .pointer (some ⟨w.heap.size, 0, none⟩) := Reg.slot_val (hx 1 (by kernel_rfl))
        have y0 := (T1.out.call HC.out).out 0 _ rfl
        have y1 := (T1.out.call HC.out).out 1 _ rfl
        go_simp
        exact hK _ _ rfl trivial HC.out (Below.refl _ _)
      · refine Reg6.Obl.early rfl (by kernel_rfl) ?_
        rintro a wq hC hx hd K hK
        have t1 : a.tmps[1]?.getD undef = .pointer (some ⟨w.heap.size, 0, none⟩) := Reg.slot_val (hx 1 (by kernel_rfl))
        go_simp
        exact hK _ _ rfl trivial hC (Below.refl _ _)
      · refine Reg6.Obl.early rfl (by kernel_rfl) ?_
        rintro a wq hC hx hd K hK
        have HC := Lib.hid hC
        clear hC
        have t10 : a.tmps[10]?.getD undef = .pointer (some ⟨w.heap.size, 0, none⟩) := Reg.slot_val (hd 1 10 (by kernel_rfl) rfl).1
        have y0 := (T1.out.call HC.out).out 0 _ rfl
        go_simp
        exact hK _ _ rfl trivial HC.out (Below.refl _ _)
      · refine Reg6.Obl.early rfl (by kernel_rfl) ?_
        rintro a wq hC hx hd K hK
        have t11 : a.tmps[11]?.getD undef = .slice pa pl pc := Reg.slot_val (hd 2 11 (by kernel_rfl) rfl).1
        go_simp
        exact hK _ _ rfl trivial hC (Below.refl _ _)
      · refine Reg6.Obl.early rfl (by kernel_rfl) ?_
        rintro a wq hC hx hd K hK
        have HC := Lib.hid hC
        clear hC
        have t12 : a.tmps[12]?.getD undef = .int .i64 pl := Reg.slot_val (hd 3 12 (by kernel_rfl) rfl).1
        have hmk := make_floats wq pl (by omega)
        have HZ := Lib.hid (zeros_fs wq pl (by omega))
        go_simp
        exact hK _ _ trivial ⟨_, rfl, HZ.out.1⟩ (HC.out.alloc HC.out.size _) ((Below.refl _ _).alloc (Nat.le_refl _) _)
      · refine Reg6.Obl.early rfl (by kernel_rfl) ?_
        rintro a wq hC hx hd K hK
        have HC := Lib.hid hC
        clear hC
        have t9 : a.tmps[9]?.getD undef = .agg #[.slice pa pl pc, .slice ta tl tc] := Reg.slot_val (hd 0 9 (by kernel_rfl) rfl).1
        obtain ⟨g, g13, h1⟩ := (hd 4 13 (by kernel_rfl) rfl).2
        have t13 := Reg.slot_val g13
        have HZ := Lib.hid h1
        clear g13 h1
        go_simp
        exact hK _ _ trivial ⟨g, rfl, HZ.out⟩ HC.out (Below.refl _ _)
      · refine Reg6.Obl.early rfl (by kernel_rfl) ?_
        rintro a wq hC hx hd K hK
        have HC := Lib.hid hC
        clear hC
        go_simp
        exact hK _ _ trivial ⟨_, rfl, HC.out.size, by simp, At.new (vs := Z9'), fun i => by go_simp⟩ (HC.out.alloc HC.out.size _) ((Below.refl _ _).alloc (Nat.le_refl _) _)
      · refine Reg6.Obl.store rfl ?_
        rintro a wq hC hx hd K hK
        have HC := Lib.hid hC
        clear hC
        obtain ⟨g, g14, h1⟩ := (hd 5 14 (by kernel_rfl) rfl).2
        have t14 : a.tmps[14]?.getD undef = .agg #[.slice pa pl pc, .slice ta tl tc, .slice none 0 0, .float .f32 0, .float .f32 0, .slice (some ⟨g, 0, none⟩) pl pl, .float .f32 0, .float .f32 0, .float .f32 0] := Reg.slot_val g14
        obtain ⟨x, g4, x1, x2, x3, x4⟩ := (hd 6 4 (by kernel_rfl) rfl).2
        have t4 := Reg.slot_val g4
        have HD : Hid (∃ wp x' g', a.eval (.tmp 4) = .pointer (some ⟨x', 0, none⟩) ∧ Below w1.heap.size w1 wp ∧ (w1.heap.size ≤ x' ∧ x' < wp.heap.size ∧ At wp x' Z9') ∧ IsFs .f32 wp (some ⟨g', 0, none⟩) pl pl (List.replicate pl 0) ∧ setL wq x 0 (bareB pa ta pl pc tl tc g).l = setL wp x' 0 (bareB pa ta pl pc tl tc g').l) := Lib.hid ⟨wq, x, g, g4, HC.out, ⟨x1, x2, x3⟩, h1, rfl⟩
        have y0 := x3 0 _ rfl
        have y1 := x3 1 _ rfl
        have y2 := x3 2 _ rfl
        have y3 := x3 3 _ rfl
        have y4 := x3 4 _ rfl
        have y5 := x3 5 _ rfl
        have y6 := x3 6 _ rfl
        have y7 := x3 7 _ rfl
        have y8 := x3 8 _ rfl
        have f0 := x4 0
        have f1 := x4 1
        have f2 := x4 2
        have f3 := x4 3
        have f4 := x4 4
        have f5 := x4 5
        have f6 := x4 6
        have f7 := x4 7
        have f8 := x4 8
        clear g14 g4 h1 x1 x2 x3 x4
        go_simp
        exact hK _ HD.out
    rintro f w3 hD hd
    obtain ⟨wp, x, g, e4, hBp, ⟨x1, x2, x3⟩, hZ, rfl⟩ := hD
    have g4 : f 4 = .pointer (some ⟨x, 0, none⟩) := e4
    simp only [Reg.mixL, g4]
    have T3 := Lib.hid (T1.out.call hBp)
    have hlt := T1.out.lt
    have hA3 : Agree (fun b => b ≠ x) wp (setL wp x 0 (bareB pa ta pl pc tl tc g).l) := Agree.setL (fun h => h rfl) _ _ _ (Agree.refl _ _)
    have hx3 := at_setL (vs := (bareB pa ta pl pc tl tc g).l) (o := 0) x3 (Nat.le_of_ble_eq_true rfl)
    have hB3 : Below w1.heap.size w1 (setL wp x 0 (bareB pa ta pl pc tl tc g).l) := setL_below _ x1 _ _ _ hBp
    have hZ3 : IsFs .f32 (setL wp x 0 (bareB pa ta pl pc tl tc g).l) (some ⟨g, 0, none⟩) pl pl (List.replicate pl 0) := by
      by_cases hp0 : pl = 0
      · subst hp0
        exact ⟨rfl, Nat.le_refl _, Nat.zero_le _, fun z hz => (by cases hz), fun e => (by cases e), fun y hy i hi => absurd hi (Nat.not_lt_zero i)⟩
      · have hgx : g ≠ x := fun e => by
          subst e
          have h0 := hZ.2.2.2.2.2 _ rfl 0 (by omega)
          rw [addr_add', Nat.zero_add] at h0
          rw [x3 0 _ rfl] at h0
          cases h0
        exact fs_agree (S := fun b => b ≠ x) (lo := g) (hi := g + 1) hZ (fun y hy => by cases hy; exact ⟨g, rfl, Nat.le_refl _, Nat.lt_succ_self _⟩) (fun b k1 k2 => by omega) hA3
    have X3 := Lib.hid hx3
    have T1' := Lib.hid (T1.out.call hB3)
    have Z3 := Lib.hid hZ3
    clear hA3 hx3 hB3 hZ3 hBp hZ x1 x2 x3 e4 g4 hd
    generalize (setL wp x 0 (bareB pa ta pl pc tl tc g).l) = W3 at *
    have x0 := X3.out 0 _ rfl
    have x1 := X3.out 1 _ rfl
    have x2 := X3.out 2 _ rfl
    have x3 := X3.out 3 _ rfl
    have x4 := X3.out 4 _ rfl
    have x5 := X3.out 5 _ rfl
    have x6 := X3.out 6 _ rfl
    have x7 := X3.out 7 _ rfl
    have x8 := X3.out 8 _ rfl
    have y0 := T1'.out.out 0 _ rfl
    go_wp2_with fail
    clear x0 x1 x2 x3 x4 x5 x6 x7 x8 y0
    have hIB : IsB W3 (bareB pa ta pl pc tl tc g) (bareC cs ts) := ⟨HP.out.below T1'.out.bel, HT.out.below T1'.out.bel, nil_ss _, by show IsFs .f32 W3 _ _ _ (List.replicate cs.length 0); rw [hpl]; exact Z3.out, fv_0, fv_0, fv3_0⟩
    refine (impl_placed (bareB pa ta pl pc tl tc g) (bareC cs ts) pa pl pc cs W3 hIB (HP.out.below T1'.out.bel) (by omega) H3.out (by show tl ≤ 128; omega) (Nat.zero_le _) (by show pl ≤ 1000; omega)).mono ?_
    rintro e w2 ⟨B', F, rfl, hI, hG, hB2⟩
    have T2 := Lib.hid (T1'.out.call hB2)
    have M := Lib.hid (And.intro hI hG)
    have hlt' := T1'.out.lt
    clear hI hG hB2 hIB
    have q0 := T2.out.res 0 _ rfl
    have p0 := T2.out.fr 0
    have q1 := T2.out.res 1 _ rfl
    have p1 := T2.out.fr 1
    have q2 := T2.out.res 2 _ rfl
    have p2 := T2.out.fr 2
    have q3 := T2.out.res 3 _ rfl
    have p3 := T2.out.fr 3
    have q4 := T2.out.res 4 _ rfl
    have p4 := T2.out.fr 4
    have q5 := T2.out.res 5 _ rfl
    have p5 := T2.out.fr 5
    have q6 := T2.out.res 6 _ rfl
    have p6 := T2.out.fr 6
    have q7 := T2.out.res 7 _ rfl
    have p7 := T2.out.fr 7
    have q8 := T2.out.res 8 _ rfl
    have p8 := T2.out.fr 8
    obtain ⟨hR, hBB⟩ := T2.out.fin (vs' := B'.l) rfl
    have hA := Agree.setL (Sy.res (bo := w.heap.size) (br := w.heap.size + 1)) B'.l _ 0 (Agree.refl (Sy w.heap.size (w.heap.size + 1)) w2)
    simp only [setL, Nat.zero_add, Nat.reduceAdd] at hR hBB hA
    have HR := Lib.hid hR
    have HBB := Lib.hid hBB
    have HA := Lib.hid hA
    clear hR hBB hA
    go_wp2
    clear q0 q1 q2 q3 q4 q5 q6 q7 q8 p0 p1 p2 p3 p4 p5 p6 p7 p8
    have m0 := HR.out 0 _ rfl
    have m1 := HR.out 1 _ rfl
    have m2 := HR.out 2 _ rfl
    have m3 := HR.out 3 _ rfl
    have m4 := HR.out 4 _ rfl
    have m5 := HR.out 5 _ rfl
    have m6 := HR.out 6 _ rfl
    have m7 := HR.out 7 _ rfl
    have m8 := HR.out 8 _ rfl
    refine bodyPost_ret (v := .tuple #[B'.v, .bool true]) (by simp [results, Try.results18, go_sem, m0, m1, m2, m3, m4, m5, m6, m7, m8]) rfl ?_
    have hs : ∀ q, W3.heap.size ≤ q → q < w2.heap.size → Sy w.heap.size (w.heap.size + 1) q := Sy.new hlt'.1 hlt'.2
    exact ⟨⟨B', F, rfl, M.out.1.agree M.out.2.lb hs HA.out, (M.out.2.agree hs HA.out).wide (by omega) HA.out.size⟩, HBB.out⟩
end Go.Proofs.Ytmbekamnogbgaaa

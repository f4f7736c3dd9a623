/-
Texts in one: what HoldMesh stands on, part 33. Conditions: those of each.
-/
import Derived.Test.YtajglpkeojaelaaKHoldMesh32

/-
Places that are moved one by one, the rest of the body as it was. Conditions: the body lies in blocks of its own.
-/
namespace Go.Proofs.Ytajglpkeojaelaa
open Go Fk Go.RowKit
set_option linter.unusedVariables false
set_option maxRecDepth 8000

/-- The first k places are moved, the others are as they were. -/
def mkW (xs ys : List C3) (d : Option Nat) (n k : Nat) : List C3 := (List.range n).map fun j => if j < k then movC (xs.getD j c0) (ys.getD j c0) d else xs.getD j c0
theorem mkW_len (xs ys : List C3) (d : Option Nat) (n k : Nat) : (mkW xs ys d n k).length = n := by simp [mkW]
theorem mkW_zero {xs ys : List C3} {d : Option Nat} {n : Nat} (h : xs.length = n) : mkW xs ys d n 0 = xs := by
  subst h
  apply List.ext_getElem (by simp [mkW])
  intro i h1 h2
  simp [mkW, List.getD, h2]
theorem mkW_full (xs ys : List C3) (d : Option Nat) (n : Nat) : mkW xs ys d n n = mkM xs ys d n n := by
  apply List.ext_getElem (by simp [mkW, mkM])
  intro i h1 h2
  have hi : i < n := by simpa [mkW] using h1
  simp [mkW, mkM, hi]
theorem mkW_set {xs ys : List C3} {d : Option Nat} {n k : Nat} (hk : k < n) : (mkW xs ys d n k).set k (movC (xs.getD k c0) (ys.getD k c0) d) = mkW xs ys d n (k + 1) := by
  apply List.ext_getElem (by simp [mkW])
  intro i h1 h2
  simp only [mkW, List.getElem_set, List.getElem_map, List.getElem_range]
  by_cases hik : k = i
  · subst hik; simp
  · rw [if_neg hik]
    by_cases h : i < k
    · rw [if_pos h, if_pos (by omega)]
    · rw [if_neg h, if_neg (by omega)]
theorem LTs.and {S T : Nat → Prop} {w : World} {a : Option Addr} {n : Nat} (h : LTs S w a n) (k : LTs T w a n) : LTs (fun b => S b ∧ T b) w a n := fun x hx => by
  obtain ⟨g, e, h1, h2⟩ := h x hx
  obtain ⟨g', e', k1, k2⟩ := k x hx
  subst e
  cases e'
  refine ⟨g, rfl, ⟨h1, k1⟩, fun i hi => ?_⟩
  obtain ⟨b, m, c, hc, hb⟩ := h2 i hi
  obtain ⟨b', m', c', hc', hb'⟩ := k2 i hi
  rw [hc] at hc'
  cases hc'
  refine ⟨b, m, c, hc, fun y hy => ?_⟩
  obtain ⟨q, o, e, z⟩ := hb y hy
  obtain ⟨q', o', e', z'⟩ := hb' y hy
  subst e
  cases e'
  exact ⟨q, o, rfl, z, z'⟩
theorem lts_of_lt {lo hi : Nat} {w : World} {a : Option Addr} {n : Nat} (h : LT lo hi w a n) : LTs (fun b => lo ≤ b ∧ b < hi) w a n := fun x hx => by
  obtain ⟨g, e, h1, h2, h3⟩ := h x hx
  refine ⟨g, e, ⟨h1, h2⟩, fun i hi => ?_⟩
  obtain ⟨b, m, c, hc, hb⟩ := h3 i hi
  refine ⟨b, m, c, hc, fun y hy => ?_⟩
  obtain ⟨q, o, e, z1, z2⟩ := hb y hy
  exact ⟨q, o, e, z1, z2⟩
theorem lt_of_lts {lo hi : Nat} {w : World} {a : Option Addr} {n : Nat} (h : LTs (fun b => lo ≤ b ∧ b < hi) w a n) : LT lo hi w a n := fun x hx => by
  obtain ⟨g, e, ⟨h1, h2⟩, h3⟩ := h x hx
  refine ⟨g, e, h1, h2, fun i hi => ?_⟩
  obtain ⟨b, m, c, hc, hb⟩ := h3 i hi
  refine ⟨b, m, c, hc, fun y hy => ?_⟩
  obtain ⟨q, o, e, z1, z2⟩ := hb y hy
  exact ⟨q, o, e, z1, z2⟩
/-- A body whose places lie in block g, its other lists in blocks that are told. -/
def PZ (S : Nat → Prop) (w : World) (g : Nat) (B : Bd) (cs : List C3) : Prop := (B.pl = 0 ∨ (B.pa = some ⟨g, 0, none⟩ ∧ OwnVs w g cs)) ∧ LTs S w B.ta B.tl ∧ (∀ x, B.sa = some x → ∃ b, x = ⟨b, 0, none⟩ ∧ S b) ∧ (∀ x, B.wa = some x → ∃ b, x = ⟨b, 0, none⟩ ∧ S b)
theorem pz_of {lo hi : Nat} {w : World} {B : Bd} {cs : List C3} (hL : LB lo hi w B) (hX : PX w B.pl B cs) (hlo : lo ≤ hi) : ∃ g, lo ≤ g ∧ g ≠ hi ∧ PZ (fun b => b ≠ g ∧ lo ≤ b ∧ b < hi) w g B cs := by
  obtain ⟨l1, l2, l3, l4⟩ := hL
  have key : ∀ g, (∀ x, B.sa = some x → ∃ b, x = ⟨b, 0, none⟩ ∧ b ≠ g) → (∀ x, B.wa = some x → ∃ b, x = ⟨b, 0, none⟩ ∧ b ≠ g) → LTs (fun b => b ≠ g) w B.ta B.tl → LTs (fun b => b ≠ g ∧ lo ≤ b ∧ b < hi) w B.ta B.tl ∧ (∀ x, B.sa = some x → ∃ b, x = ⟨b, 0, none⟩ ∧ b ≠ g ∧ lo ≤ b ∧ b < hi) ∧ (∀ x, B.wa = some x → ∃ b, x = ⟨b, 0, none⟩ ∧ b ≠ g ∧ lo ≤ b ∧ b < hi) := fun g k1 k2 k3 =>
    ⟨k3.and (lts_of_lt l2), fun x hx => by
      obtain ⟨b, e, h1, h2⟩ := l3 x hx
      obtain ⟨b', e', h3⟩ := k1 x hx
      subst e; cases e'
      exact ⟨b, rfl, h3, h1, h2⟩, fun x hx => by
      obtain ⟨b, e, h1, h2⟩ := l4 x hx
      obtain ⟨b', e', h3⟩ := k2 x hx
      subst e; cases e'
      exact ⟨b, rfl, h3, h1, h2⟩⟩
  rcases hX with h0 | ⟨g, e, hO, k3, k1, k2⟩
  · refine ⟨hi + 1, by omega, by omega, .inl h0, key (hi + 1) (fun x hx => ?_) (fun x hx => ?_) ((lts_of_lt l2).less (fun b hb => by omega))⟩
    · obtain ⟨b, e, h1, h2⟩ := l3 x hx
      exact ⟨b, e, by omega⟩
    · obtain ⟨b, e, h1, h2⟩ := l4 x hx
      exact ⟨b, e, by omega⟩
  · obtain ⟨g', e', h1, h2⟩ := l1 _ e
    cases e'
    exact ⟨g, h1, by omega, .inr ⟨e, hO⟩, key g k1 k2 k3⟩
theorem lv_S {S : Nat → Prop} {a : Option Addr} (h : ∀ x, a = some x → ∃ b, x = ⟨b, 0, none⟩ ∧ S b) : ∃ lo hi, LV lo hi a ∧ ∀ b, lo ≤ b → b < hi → S b := by
  cases a with
  | none => exact ⟨0, 0, fun x hx => (by cases hx), fun b _ hb => absurd hb (Nat.not_lt_zero b)⟩
  | some x =>
    obtain ⟨b, e, hb⟩ := h x rfl
    exact ⟨b, b + 1, fun y hy => ⟨b, (by cases hy; exact e), Nat.le_refl _, Nat.lt_succ_self _⟩, fun q h1 h2 => by
      have : q = b := by omega
      subst this; exact hb⟩
theorem pz_fin {lo hi : Nat} {W w : World} {g : Nat} {B : Bd} {c : Bc} {cs' : List C3} (h : IsB W B c) (hL : LB lo hi W B) (hZ : PZ (fun b => b ≠ g ∧ lo ≤ b ∧ b < hi) W g B c.cs) (hA : Agree (fun b => b ≠ g ∧ lo ≤ b ∧ b < hi) W w) (hO : B.pl = 0 ∨ OwnVs w g cs') (hl : cs'.length = B.pl) :
    IsB w B ⟨cs', c.ts, c.ss, c.zs, c.film, c.bend, c.fall⟩ ∧ LB lo hi w B := by
  obtain ⟨z1, z2, z3, z4⟩ := hZ
  obtain ⟨la, ha, s1, s2⟩ := lv_S z3
  obtain ⟨lb, hb, w1, w2⟩ := lv_S z4
  refine ⟨⟨?_, ts_agreeS h.2.1 z2 (fun _ hb => hb) hA, ss_agree h.2.2.1 s1 s2 hA, fs_agree h.2.2.2.1 w1 w2 hA, h.2.2.2.2⟩, hL.1, lt_of_lts ((z2.agree (fun _ hb => hb) hA).less (fun b hb => hb.2)), hL.2.2⟩
  refine ⟨hl, h.1.2.1, h.1.2.2.1, h.1.2.2.2.1, fun x hx i hi => ?_⟩
  rcases z1 with z1 | ⟨z1, _⟩
  · rw [z1] at hi; exact absurd hi (Nat.not_lt_zero i)
  rcases hO with hO | hO
  · rw [hO] at hi; exact absurd hi (Nat.not_lt_zero i)
  · exact hO.is.2.2.2.2 x (by rw [← hx, z1]) i (by rw [hl]; exact hi)
theorem Tc.put3 {w w1 : World} {bo br g k y z v : Nat} {lo lr : List Value} (h : Tc w bo br lo lr w1) (hg : w.heap.size ≤ g) (h1 : g ≠ bo) (h2 : g ≠ br) : Tc w bo br lo lr (put3 w1 g k y z v) := by
  unfold Go.Proofs.Ytajglpkeojaelaa.put3
  exact ⟨((h.out.far h1).far h1).far h1, ((h.res.far h2).far h2).far h2, fun i => by simpa using h.fo i, fun i => by simpa using h.fr i, below_set3 h.bel hg, h.ge, by simpa using h.lt⟩
theorem Agree.put3 {S : Nat → Prop} {W w : World} {g k y z v : Nat} (h : Agree S W w) (hg : ¬ S g) : Agree S W (put3 w g k y z v) := ((h.set hg).set hg).set hg
end Go.Proofs.Ytajglpkeojaelaa


/-
Meshes that are held: what the model makes. Conditions: the mesh and the holds lie in memory, the holds are good for the mesh.
-/
namespace Go.Proofs.Ytajglpkeojaelaa
open Go Fk Go.RowKit
set_option linter.unusedVariables false
set_option maxRecDepth 16000

theorem good_in {n : Nat} {hs : List HC} (h : goodB n hs = true) : ∀ k, k < hs.length → inB n (hs.getD k hd0).1 = true := fun k hk => by
  unfold goodB at h
  rw [List.all_eq_true] at h
  have := h k (List.mem_range.mpr hk)
  unfold stepB at this
  simp only [Bool.and_eq_true] at this
  exact this.2.1
/-- A mesh as a body without springs. -/
def mshC (cs : List C3) (ts : List (List Int)) : Bc := ⟨cs, ts, [], [], some 0, some 0, z3⟩
set_option maxHeartbeats 4000000 in
theorem l04Mesh (pb : Nat) (pa ta ha : Option Addr) (pl pc tl tc hl hc : Nat) (cs : List C3) (ts : List (List Int)) (hs : List HC) (w : World) (k0' : w.cell? ⟨pb, 0, none⟩ = some (.slice pa pl pc)) (k1' : w.cell? ⟨pb, 1, none⟩ = some (.slice ta tl tc)) (hp : IsVs w pa pl pc cs) (ht : IsTs w ta tl tc ts) (hh : IsHs w ha hl hc hs) (h1 : pl ≤ 1000) (h2 : tl ≤ 1000) (h3 : ∀ j, j < tl → (ts.getD j []).length ≤ 1000) (hg : ∀ k, k < hl → inB pl (hs.getD k hd0).1 = true) :
    Calls Try.prog 108 #[.pointer (some ⟨pb, 0, none⟩), .slice ha hl hc] w fun e w' => (∃ qa qc ra rc, e = .returned (.agg #[.slice qa pl qc, .slice ra tl rc]) ∧ IsVs w' qa pl qc (putF hs cs) ∧ IsTs w' ra tl rc ts ∧ LV w.heap.size w'.heap.size qa ∧ LT w.heap.size w'.heap.size w' ra tl) ∧ Below w.heap.size w w' := by
  have ui := Try.underlying38
  have uh := Try.underlying119
  have uv := Try.underlying40
  have hM : hl ≤ 9223372036854775807 := by have h1 := hh.2.1; have h2 := hh.2.2.1; unfold maxLen at h2; omega
  have hhl := hh.1
  have hpl := hp.1
  have htl := ht.1
  have B0 : Hid (Below w.heap.size w (w.alloc (.cells #[.slice none 0 0, .slice none 0 0] 38))) := Lib.hid ((Below.refl _ _).alloc (Nat.le_refl _) _)
  have A0 : Hid (At (w.alloc (.cells #[.slice none 0 0, .slice none 0 0] 38)) w.heap.size [.slice none 0 0, .slice none 0 0]) := Lib.hid At.new
  have F0 : Hid (∀ i, (w.alloc (.cells #[.slice none 0 0, .slice none 0 0] 38)).frozen? ⟨w.heap.size, i, none⟩ = false) := Lib.hid (fun i => by go_simp)
  have hsz : (w.alloc (.cells #[.slice none 0 0, .slice none 0 0] 38)).heap.size = w.heap.size + 1 := by simp
  have SZ := Lib.hid hsz
  have HH := Lib.hid hh
  have HG := Lib.hid hg
  have HPL := Lib.hid hpl
  have HT3 := Lib.hid (ts_wf ht)
  have HOWN := Lib.hid (l02Own pb pa ta pl pc tl tc cs ts _ (cell_below B0.out k0') (cell_below B0.out k1') (hp.below B0.out) (ht.below B0.out) h1 h2 h3)
  clear hp ht hh h3 hsz hg k0' k1'
  go_enter Try.func108, Try.ntmps108
  go_wp2_with fail
  generalize (w.alloc (.cells #[.slice none 0 0, .slice none 0 0] 38)) = W at *
  refine HOWN.out.mono ?_
  rintro e w1 ⟨⟨va, vt, xs, rfl, hva, hpv, hvt⟩, hB1⟩
  obtain ⟨qa, qc, rfl⟩ := owns_slice hva
  obtain ⟨ra, rc, rfl⟩ := OwnT.slice hvt
  obtain ⟨ra', rc', e, hI⟩ := OwnT.is hvt htl HT3.out
  cases e
  have hs1 := hB1.size
  have hL : LB W.heap.size w1.heap.size w1 ⟨qa, ra, none, none, pl, qc, tl, rc, 0, 0, 0, 0, 0, 0, 0, 0, 0⟩ := ⟨lv_of_owns hva, lt_of_owns hvt, fun x hx => (by cases hx), fun x hx => (by cases hx)⟩
  have hX : PX w1 pl ⟨qa, ra, none, none, pl, qc, tl, rc, 0, 0, 0, 0, 0, 0, 0, 0, 0⟩ cs := by
    rcases own_blk hva hpv hpl with ⟨_, hz⟩ | ⟨g, cap, e, hb, _, _, hO⟩
    · exact .inl hz
    · cases e
      exact .inr ⟨g, rfl, hO, (lts_of_owns hvt hva).less (fun b hb => hb.1), fun x hx => (by cases hx), fun x hx => (by cases hx)⟩
  have hIB : IsB w1 ⟨qa, ra, none, none, pl, qc, tl, rc, 0, 0, 0, 0, 0, 0, 0, 0, 0⟩ (mshC cs ts) := ⟨vs_owned hva hpl hpv, hI, nil_ss _, nil_fs _, fv_0, fv_0, fv3_0⟩
  rw [SZ.out] at hs1 hL
  obtain ⟨g, g1, g2, hZ⟩ := pz_of hL hX hs1
  have hN : Below w1.heap.size w1 (w1.alloc (.cells #[.slice qa pl qc, .slice ra tl rc] 38)) := (Below.refl _ _).alloc (Nat.le_refl _) _
  have T0 : Hid (Tc w w1.heap.size w.heap.size [.slice qa pl qc, .slice ra tl rc] [.slice none 0 0, .slice none 0 0] (w1.alloc (.cells #[.slice qa pl qc, .slice ra tl rc] 38))) := Lib.hid
    ⟨At.new, (A0.out.below hB1).below hN, fun i => by go_simp, fun i => by rw [hN.frozen (p := ⟨w.heap.size, i, none⟩) (show w.heap.size < w1.heap.size by omega), hB1.frozen (p := ⟨w.heap.size, i, none⟩) (show w.heap.size < W.heap.size by rw [SZ.out]; omega)]; exact F0.out i, (B0.out.trans (hB1.mono B0.out.size)).trans (hN.mono (by omega)), ⟨by omega, Nat.le_refl _, by omega⟩, by simp <;> omega⟩
  have K := Lib.hid (And.intro hIB (And.intro hL hZ))
  have G := Lib.hid (And.intro g1 g2)
  have O0 : Hid (pl = 0 ∨ OwnVs (w1.alloc (.cells #[.slice qa pl qc, .slice ra tl rc] 38)) g (putF (hs.take 0) cs)) := Lib.hid (hZ.1.imp id fun k => k.2.below hN)
  have E0 : Hid (Agree (fun b => b ≠ g ∧ w.heap.size + 1 ≤ b ∧ b < w1.heap.size) w1 (w1.alloc (.cells #[.slice qa pl qc, .slice ra tl rc] 38))) := Lib.hid (Agree.of_below hN)
  have PA : Hid (pl = 0 ∨ qa = some ⟨g, 0, none⟩) := Lib.hid (hZ.1.imp id (fun k => k.1))
  have S1 := Lib.hid hs1
  clear hI hL hX hZ hN hB1 hs1 hIB g1 g2 hva hpv hvt
  go_wp2
  generalize (w1.alloc (.cells #[.slice qa pl qc, .slice ra tl rc] 38)) = W2 at *
  go_loopw [6] (fun i w' => ∃ k : Nat, k ≤ hl ∧ i = .int .i64 k ∧ Aside (Tc w w1.heap.size w.heap.size [.slice qa pl qc, .slice ra tl rc] [.slice none 0 0, .slice none 0 0] w' ∧ (pl = 0 ∨ OwnVs w' g (putF (hs.take k) cs)) ∧ Agree (fun b => b ≠ g ∧ w.heap.size + 1 ≤ b ∧ b < w1.heap.size) w1 w')) (fun i _ => hl - (intOf i).toNat)
  case atStart => exact ⟨0, Nat.zero_le _, rfl, T0.out, O0.out, E0.out⟩
  case round =>
    obtain ⟨k, hk, rfl, hA⟩ := hrel
    have TK := Lib.hid hA.out.1
    have OK := Lib.hid hA.out.2.1
    have EK := Lib.hid hA.out.2.2
    clear hA
    by_cases hlt : k < hl
    · obtain ⟨hb, ho, rfl, hcell⟩ := HH.out.some (by omega)
      obtain ⟨h, hq, hi⟩ := hcell k hlt
      have hlk : k < hs.length := by omega
      have hin := of_decide_eq_true (HG.out k hlt)
      have hpz : h.p = (hs.getD k hd0).1 := hi.1
      rw [← hpz] at hin
      have p0 : (0 : Int) ≤ h.p := hin.1
      have p1 : h.p < (pl : Int) := by omega
      have hne : ¬ pl = 0 := by omega
      have hk0 : (0 : Int) ≤ (k : Int) := by omega
      have hk1 : (k : Int) < (hl : Int) := by omega
      have LT : Hid (h.p.toNat < (putF (hs.take k) cs).length) := Lib.hid (by rw [putF_len]; omega)
      have hsn := putF_snoc hs cs k hlk
      unfold put1 at hsn
      rw [← hpz] at hsn
      have HSN := Lib.hid hsn
      have HI := Lib.hid hi
      have O1 := Lib.hid (OK.out.resolve_left hne)
      have hpa := PA.out.resolve_left hne
      have CO := TK.out.out 0 _ rfl
      rw [hpa] at CO
      have CO := Lib.hid CO
      have QK := Lib.hid (hq.below TK.out.bel)
      have ch := QK.out 0 (by omega)
      simp only [HW.l, List.getElem?_cons_zero, Nat.add_zero] at ch
      have CH := Lib.hid ch
      obtain ⟨NP, hNP⟩ : ∃ NP, (putF (hs.take k) cs).getD h.p.toNat c0 = NP := ⟨_, rfl⟩
      rw [hNP] at HSN
      have HNP := Lib.hid hNP
      have HPA := Lib.hid hpa
      generalize hs.getD k hd0 = HCk at *
      clear hcell hq hi hin hpz hsn hpa ch hNP hne
      go_wp2_with fail
      refine Reg6.wp_region_mix (s := 21) (C := fun w' => Below wr.heap.size wr w') (D := fun _ w' => ∃ wp y z v, Below wr.heap.size wr wp ∧ F3 y z v (putC HCk NP) ∧ w' = put3 wp g h.p.toNat y z v) (G := fun w1 w2 => Below w1.heap.size w1 w2)
        (Rv := fun i v => match i with | 0 => v = .pointer (some ⟨w1.heap.size, 0, none⟩) | 1 => v = .slice (some ⟨g, 0, none⟩) pl qc | 2 => v = .slice (some ⟨hb, ho, none⟩) hl hc | 3 => v = .int .i64 k | 4 => v = .pointer (some ⟨hb, ho + k * 8, none⟩) | 5 => v = .pointer (some ⟨hb, ho + k * 8, none⟩) | 6 => v = .int .i64 h.p | 7 => v = .slice (some ⟨hb, ho, none⟩) hl hc | 8 => v = .int .i64 k | 9 => v = .pointer (some ⟨hb, ho + k * 8, none⟩) | 10 => v = .pointer (some ⟨w1.heap.size, 0, none⟩) | 11 => v = .slice (some ⟨g, 0, none⟩) pl qc | 12 => v = .slice (some ⟨hb, ho, none⟩) hl hc | 13 => v = .int .i64 k | 14 => v = .pointer (some ⟨hb, ho + k * 8, none⟩) | 15 => v = .pointer (some ⟨hb, ho + k * 8, none⟩) | 16 => v = .int .i64 h.p | 17 => v = .pointer (some ⟨g, h.p.toNat * 3, none⟩) | 18 => ∃ p q r, v = vv p q r ∧ F3 p q r NP | 19 => ∃ p q r, v = vv p q r ∧ F3 p q r (putC HCk NP) | 20 => v = .pointer (some ⟨g, h.p.toNat * 3, none⟩) | _ => True)
        (Rw := fun _ _ _ => True) [false, false, false, false, false, false, false, false, false, false, false, false, false, false, false, true, true, true, true, true, true, true, true, true, true, true, true, true, true, true, true, true, true, true, true, true, false]
        (by kernel_rfl) (by kernel_rfl) (by kernel_rfl) (fun _ _ _ _ _ _ _ => trivial) (below_drewN (Below.refl _ _) 1) ?_ ?_
      · refine ⟨?_, ?_, ?_, ?_, ?_, ?_, ?_, ?_, ?_, ?_, ?_, ?_, ?_, ?_, ?_, ?_, ?_, ?_, ?_, ?_, ?_, ?_, trivial⟩
        · refine Reg6.Obl.early rfl (by kernel_rfl) ?_
          rintro av wq hC hx hd K hK
          have HC := Lib.hid hC
          clear hC
          have t5 : av.tmps[5]?.getD undef = .pointer (some ⟨w1.heap.size, 0, none⟩) := Reg.slot_val (hx 5 (by kernel_rfl))
          go_simp
          exact hK _ _ rfl trivial HC.out (Below.refl _ _)
        · refine Reg6.Obl.early rfl (by kernel_rfl) ?_
          rintro av wq hC hx hd K hK
          have HC := Lib.hid hC
          clear hC
          have t15 : av.tmps[15]?.getD undef = .pointer (some ⟨w1.heap.size, 0, none⟩) := Reg.slot_val (hd 0 15 (by kernel_rfl) rfl).1
          have y0 := cell_below HC.out CO.out
          go_simp
          exact hK _ _ rfl trivial HC.out (Below.refl _ _)
        · refine Reg6.Obl.early rfl (by kernel_rfl) ?_
          rintro av wq hC hx hd K hK
          have HC := Lib.hid hC
          clear hC
          have t1 : av.tmps[1]?.getD undef = .slice (some ⟨hb, ho, none⟩) hl hc := Reg.slot_val (hx 1 (by kernel_rfl))
          go_simp
          exact hK _ _ rfl trivial HC.out (Below.refl _ _)
        · refine Reg6.Obl.early rfl (by kernel_rfl) ?_
          rintro av wq hC hx hd K hK
          have HC := Lib.hid hC
          clear hC
          have t6 : av.tmps[6]?.getD undef = .int .i64 k := Reg.slot_val (hx 6 (by kernel_rfl))
          go_simp
          exact hK _ _ rfl trivial HC.out (Below.refl _ _)
        · refine Reg6.Obl.early rfl (by kernel_rfl) ?_
          rintro av wq hC hx hd K hK
          have HC := Lib.hid hC
          clear hC
          have t17 : av.tmps[17]?.getD undef = .slice (some ⟨hb, ho, none⟩) hl hc := Reg.slot_val (hd 2 17 (by kernel_rfl) rfl).1
          have t18 : av.tmps[18]?.getD undef = .int .i64 k := Reg.slot_val (hd 3 18 (by kernel_rfl) rfl).1
          go_simp
          exact hK _ _ rfl trivial HC.out (Below.refl _ _)
        · refine Reg6.Obl.early rfl (by kernel_rfl) ?_
          rintro av wq hC hx hd K hK
          have HC := Lib.hid hC
          clear hC
          have t19 : av.tmps[19]?.getD undef = .pointer (some ⟨hb, ho + k * 8, none⟩) := Reg.slot_val (hd 4 19 (by kernel_rfl) rfl).1
          go_simp
          exact hK _ _ rfl trivial HC.out (Below.refl _ _)
        · refine Reg6.Obl.early rfl (by kernel_rfl) ?_
          rintro av wq hC hx hd K hK
          have HC := Lib.hid hC
          clear hC
          have t20 : av.tmps[20]?.getD undef = .pointer (some ⟨hb, ho + k * 8, none⟩) := Reg.slot_val (hd 5 20 (by kernel_rfl) rfl).1
          have y0 := cell_below HC.out CH.out
          go_simp
          exact hK _ _ rfl trivial HC.out (Below.refl _ _)
        · refine Reg6.Obl.early rfl (by kernel_rfl) ?_
          rintro av wq hC hx hd K hK
          have HC := Lib.hid hC
          clear hC
          have t1 : av.tmps[1]?.getD undef = .slice (some ⟨hb, ho, none⟩) hl hc := Reg.slot_val (hx 1 (by kernel_rfl))
          go_simp
          exact hK _ _ rfl trivial HC.out (Below.refl _ _)
        · refine Reg6.Obl.early rfl (by kernel_rfl) ?_
          rintro av wq hC hx hd K hK
          have HC := Lib.hid hC
          clear hC
          have t6 : av.tmps[6]?.getD undef = .int .i64 k := Reg.slot_val (hx 6 (by kernel_rfl))
          go_simp
          exact hK _ _ rfl trivial HC.out (Below.refl _ _)
        · refine Reg6.Obl.early rfl (by kernel_rfl) ?_
          rintro av wq hC hx hd K hK
          have HC := Lib.hid hC
          clear hC
          have t22 : av.tmps[22]?.getD undef = .slice (some ⟨hb, ho, none⟩) hl hc := Reg.slot_val (hd 7 22 (by kernel_rfl) rfl).1
          have t23 : av.tmps[23]?.getD undef = .int .i64 k := Reg.slot_val (hd 8 23 (by kernel_rfl) rfl).1
          go_simp
          exact hK _ _ rfl trivial HC.out (Below.refl _ _)
        · refine Reg6.Obl.early rfl (by kernel_rfl) ?_
          rintro av wq hC hx hd K hK
          have HC := Lib.hid hC
          clear hC
          have t5 : av.tmps[5]?.getD undef = .pointer (some ⟨w1.heap.size, 0, none⟩) := Reg.slot_val (hx 5 (by kernel_rfl))
          go_simp
          exact hK _ _ rfl trivial HC.out (Below.refl _ _)
        · refine Reg6.Obl.early rfl (by kernel_rfl) ?_
          rintro av wq hC hx hd K hK
          have HC := Lib.hid hC
          clear hC
          have t25 : av.tmps[25]?.getD undef = .pointer (some ⟨w1.heap.size, 0, none⟩) := Reg.slot_val (hd 10 25 (by kernel_rfl) rfl).1
          have y0 := cell_below HC.out CO.out
          go_simp
          exact hK _ _ rfl trivial HC.out (Below.refl _ _)
        · refine Reg6.Obl.early rfl (by kernel_rfl) ?_
          rintro av wq hC hx hd K hK
          have HC := Lib.hid hC
          clear hC
          have t1 : av.tmps[1]?.getD undef = .slice (some ⟨hb, ho, none⟩) hl hc := Reg.slot_val (hx 1 (by kernel_rfl))
          go_simp
          exact hK _ _ rfl trivial HC.out (Below.refl _ _)
        · refine Reg6.Obl.early rfl (by kernel_rfl) ?_
          rintro av wq hC hx hd K hK
          have HC := Lib.hid hC
          clear hC
          have t6 : av.tmps[6]?.getD undef = .int .i64 k := Reg.slot_val (hx 6 (by kernel_rfl))
          go_simp
          exact hK _ _ rfl trivial HC.out (Below.refl _ _)
        · refine Reg6.Obl.early rfl (by kernel_rfl) ?_
          rintro av wq hC hx hd K hK
          have HC := Lib.hid hC
          clear hC
          have t27 : av.tmps[27]?.getD undef = .slice (some ⟨hb, ho, none⟩) hl hc := Reg.slot_val (hd 12 27 (by kernel_rfl) rfl).1
          have t28 : av.tmps[28]?.getD undef = .int .i64 k := Reg.slot_val (hd 13 28 (by kernel_rfl) rfl).1
          go_simp
          exact hK _ _ rfl trivial HC.out (Below.refl _ _)
        · refine Reg6.Obl.early rfl (by kernel_rfl) ?_
          rintro av wq hC hx hd K hK
          have HC := Lib.hid hC
          clear hC
          have t29 : av.tmps[29]?.getD undef = .pointer (some ⟨hb, ho + k * 8, none⟩) := Reg.slot_val (hd 14 29 (by kernel_rfl) rfl).1
          go_simp
          exact hK _ _ rfl trivial HC.out (Below.refl _ _)
        · refine Reg6.Obl.early rfl (by kernel_rfl) ?_
          rintro av wq hC hx hd K hK
          have HC := Lib.hid hC
          clear hC
          have t30 : av.tmps[30]?.getD undef = .pointer (some ⟨hb, ho + k * 8, none⟩) := Reg.slot_val (hd 15 30 (by kernel_rfl) rfl).1
          have y0 := cell_below HC.out CH.out
          go_simp
          exact hK _ _ rfl trivial HC.out (Below.refl _ _)
        · refine Reg6.Obl.early rfl (by kernel_rfl) ?_
          rintro av wq hC hx hd K hK
          have HC := Lib.hid hC
          clear hC
          have t26 : av.tmps[26]?.getD undef = .slice (some ⟨g, 0, none⟩) pl qc := Reg.slot_val (hd 11 26 (by kernel_rfl) rfl).1
          have t31 : av.tmps[31]?.getD undef = .int .i64 h.p := Reg.slot_val (hd 16 31 (by kernel_rfl) rfl).1
          go_simp
          exact hK _ _ (by first | rfl | simp) trivial HC.out (Below.refl _ _)
        · refine Reg6.Obl.early rfl (by kernel_rfl) ?_
          rintro av wq hC hx hd K hK
          have HC := Lib.hid hC
          clear hC
          obtain ⟨pp, qq, rr, ⟨y0, y1, y2⟩, hf⟩ := (O1.out.below HC.out).at (k := h.p.toNat) LT.out
          rw [HNP.out] at hf
          have t32 : av.tmps[32]?.getD undef = .pointer (some ⟨g, h.p.toNat * 3, none⟩) := Reg.slot_val (hd 17 32 (by kernel_rfl) rfl).1
          go_simp
          exact hK _ _ ⟨pp, qq, rr, rfl, hf⟩ trivial HC.out (Below.refl _ _)
        · refine Reg6.Obl.early rfl (by kernel_rfl) ?_
          rintro av wq hC hx hd K hK
          have HC := Lib.hid hC
          clear hC
          have t24 : av.tmps[24]?.getD undef = .pointer (some ⟨hb, ho + k * 8, none⟩) := Reg.slot_val (hd 9 24 (by kernel_rfl) rfl).1
          obtain ⟨p33, q33, r33, g33, f33⟩ := (hd 18 33 (by kernel_rfl) rfl).1
          have t33 := Reg.slot_val g33
          clear g33
          go_simp
          refine (l04Put hb (ho + k * 8) h HCk _ _ _ _ _ (QK.out.below HC.out) HI.out f33).mono ?_
          rintro en w2 ⟨p', q', r', rfl, hF, hB2⟩
          exact hK _ _ ⟨p', q', r', rfl, hF⟩ trivial (HC.out.trans (hB2.mono HC.out.size)) hB2
        · refine Reg6.Obl.early rfl (by kernel_rfl) ?_
          rintro av wq hC hx hd K hK
          have HC := Lib.hid hC
          clear hC
          have t16 : av.tmps[16]?.getD undef = .slice (some ⟨g, 0, none⟩) pl qc := Reg.slot_val (hd 1 16 (by kernel_rfl) rfl).1
          have t21 : av.tmps[21]?.getD undef = .int .i64 h.p := Reg.slot_val (hd 6 21 (by kernel_rfl) rfl).1
          go_simp
          exact hK _ _ (by first | rfl | simp) trivial HC.out (Below.refl _ _)
        · refine Reg6.Obl.store rfl ?_
          rintro av wq hC hx hd K hK
          have HC := Lib.hid hC
          clear hC
          have t35 : av.tmps[35]?.getD undef = .pointer (some ⟨g, h.p.toNat * 3, none⟩) := Reg.slot_val (hd 20 35 (by kernel_rfl) rfl).1
          obtain ⟨y, z, v, g34, f34⟩ := (hd 19 34 (by kernel_rfl) rfl).1
          have t34 := Reg.slot_val g34
          have HPP : Hid (∃ wp y' z' v', Below wr.heap.size wr wp ∧ F3 y' z' v' (putC HCk NP) ∧ put3 wq g h.p.toNat y z v = put3 wp g h.p.toNat y' z' v') := Lib.hid ⟨wq, y, z, v, HC.out, f34, rfl⟩
          obtain ⟨p0, q0, r0, ⟨y0, y1, y2⟩, -⟩ := (O1.out.below HC.out).at (k := h.p.toNat) LT.out
          have f0 := (O1.out.below HC.out).2.1 (h.p.toNat * 3)
          have f1 := (O1.out.below HC.out).2.1 (h.p.toNat * 3 + 1)
          have f2 := (O1.out.below HC.out).2.1 (h.p.toNat * 3 + 2)
          clear g34 f34
          go_simp
          exact hK _ HPP.out
      · rintro f w2 hD hd
        obtain ⟨wp, y, z, v, hB, hF, rfl⟩ := hD
        simp only [Reg.mixL]
        have O2 := Lib.hid ((O1.out.below hB).put (k := h.p.toNat) LT.out hF)
        have T2 := Lib.hid ((TK.out.call hB).put3 (k := h.p.toNat) (y := y) (z := z) (v := v) (show w.heap.size ≤ g by have := G.out.1; omega) G.out.2 (show g ≠ w.heap.size by have := G.out.1; omega))
        have E2 := Lib.hid ((EK.out.trans (Agree.of_below hB)).put3 (k := h.p.toNat) (y := y) (z := z) (v := v) (fun hb => hb.1 rfl))
        clear hB hF hd
        go_wp2
        go_roundw
        case rel => exact ⟨k + 1, by omega, by go_num, T2.out, .inr (by rw [HSN.out]; exact O2.out), E2.out⟩
        case measure => simp [intOf]; omega
    · obtain rfl : k = hl := by omega
      have hall : hs.take k = hs := by rw [← hhl]; exact List.take_length
      rw [hall] at OK
      have k0 := TK.out.out 0 _ rfl
      have k1 := TK.out.out 1 _ rfl
      have q0 := TK.out.res 0 _ rfl
      have q1 := TK.out.res 1 _ rfl
      have p0 := TK.out.fr 0
      have p1 := TK.out.fr 1
      obtain ⟨hR, hBB⟩ := TK.out.fin (vs' := [.slice qa pl qc, .slice ra tl rc]) rfl
      have hE := Agree.setL (S := (fun b => b ≠ g ∧ w.heap.size + 1 ≤ b ∧ b < w1.heap.size)) (g := w.heap.size) (fun hb => by omega) [.slice qa pl qc, .slice ra tl rc] _ 0 EK.out
      have hO := OK.out.imp id (fun k => OwnVs.agree (S := fun b => b ≠ w.heap.size) k (show g ≠ w.heap.size by have := G.out.1; omega) (Agree.setL (fun hb => hb rfl) [.slice qa pl qc, .slice ra tl rc] _ 0 (Agree.refl _ _)))
      have hF := pz_fin K.out.1 K.out.2.1 K.out.2.2 hE hO (by rw [putF_len, HPL.out])
      have hsz := hE.size
      simp only [setL, Nat.zero_add, Nat.reduceAdd] at hR hBB hF hsz
      have HR := Lib.hid hR
      have HBB := Lib.hid hBB
      have HF := Lib.hid hF
      have HSZ := Lib.hid hsz
      clear hR hBB hE hO hF hsz
      go_wp2
      clear k0 k1 q0 q1 p0 p1
      have m0 := HR.out 0 _ rfl
      have m1 := HR.out 1 _ rfl
      refine bodyPost_ret (v := .agg #[.slice qa pl qc, .slice ra tl rc]) (by simp [results, Try.results108, go_sem, m0, m1]) rfl ?_
      exact ⟨⟨qa, qc, ra, rc, rfl, HF.out.1.1, HF.out.1.2.1, HF.out.2.1.wide (by omega) HSZ.out, HF.out.2.2.1.wide (by omega) HSZ.out⟩, HBB.out⟩
end Go.Proofs.Ytajglpkeojaelaa


/-
Meshes that are held: what the model returns. Conditions: the mesh and the holds lie in memory.
-/
namespace Go.Proofs.Ytajglpkeojaelaa
open Go Fk Go.RowKit
set_option linter.unusedVariables false
set_option maxRecDepth 16000

def rHV (cs : List C3) (ts : List (List Int)) (hs : List HC) : List C3 := bif areB cs ts hs then putF hs cs else []
def rHT (cs : List C3) (ts : List (List Int)) (hs : List HC) : List (List Int) := bif areB cs ts hs then ts else []
theorem are_parts {cs : List C3} {ts : List (List Int)} {hs : List HC} (h : areB cs ts hs = true) : cs.length ≤ 64 ∧ ts.length ≤ 128 ∧ (∀ j, j < ts.length → (ts.getD j []).length = 3) ∧ ∀ k, k < hs.length → inB cs.length (hs.getD k hd0).1 = true := by
  unfold areB at h
  simp only [Bool.and_eq_true] at h
  obtain ⟨h1, h2⟩ := valid_pl h.1
  exact ⟨h1, h2, rows3h h.1, good_in h.2⟩
theorem rH_len (cs : List C3) (ts : List (List Int)) (hs : List HC) : (rHV cs ts hs).length ≤ 64 ∧ (rHT cs ts hs).length ≤ 128 := by
  unfold rHV rHT
  cases h : areB cs ts hs
  · exact ⟨Nat.zero_le _, Nat.zero_le _⟩
  · obtain ⟨h1, h2, _, _⟩ := are_parts h
    exact ⟨by show (putF hs cs).length ≤ 64; rw [putF_len]; exact h1, h2⟩
theorem rHT_3 (cs : List C3) (ts : List (List Int)) (hs : List HC) : ∀ k, k < (rHT cs ts hs).length → ((rHT cs ts hs).getD k []).length = 3 := by
  unfold rHT
  cases h : areB cs ts hs
  · exact fun k hk => absurd hk (Nat.not_lt_zero k)
  · exact (are_parts h).2.2.1
set_option maxHeartbeats 2000000 in
theorem spec_HoldMesh (pa ta ha : Option Addr) (pl pc tl tc hl hc : Nat) (cs : List C3) (ts : List (List Int)) (hs : List HC) (w : World) (hp : IsVs w pa pl pc cs) (ht : IsTs w ta tl tc ts) (hh : IsHs w ha hl hc hs) :
    Calls Try.prog 58 #[.agg #[.slice pa pl pc, .slice ta tl tc], .slice ha hl hc] w fun e w' => Made w w' e (areB cs ts hs) (rHV cs ts hs) (rHT cs ts hs) := by
  have ui := Try.underlying38
  have T0 : Hid (Tc w w.heap.size (w.heap.size + 1) [.slice pa pl pc, .slice ta tl tc] [.slice none 0 0, .slice none 0 0] ((w.alloc (.cells #[.slice pa pl pc, .slice ta tl tc] 38)).alloc (.cells #[.slice none 0 0, .slice none 0 0] 38))) := Lib.hid
    ⟨At.new.alloc, by
      have := At.new (w := w.alloc (.cells #[.slice pa pl pc, .slice ta tl tc] 38)) (vs := [.slice none 0 0, .slice none 0 0]) (t := 38)
      simpa using this, fun i => by go_simp, fun i => by go_simp, ((Below.refl _ _).alloc (Nat.le_refl _) _).alloc (by simp) _, ⟨Nat.le_refl _, by omega, by omega⟩, by simp <;> omega⟩
  have HP := Lib.hid hp
  have HT := Lib.hid ht
  have HH := Lib.hid hh
  have hpl := hp.1
  have htl := ht.1
  have hhl := hh.1
  have J := Lib.hid (l04Are w.heap.size pa ta ha pl pc tl tc hl hc cs ts hs _ (T0.out.out 0 _ rfl) (T0.out.out 1 _ rfl) (hp.below T0.out.bel) (ht.below T0.out.bel) (hh.below T0.out.bel))
  unfold rHV rHT
  clear hp ht hh
  cases hv : areB cs ts hs
  · rw [hv] at J
    clear hv
    go_enter Try.func58, Try.ntmps58
    go_wp2_with fail
    generalize ((w.alloc (.cells #[.slice pa pl pc, .slice ta tl tc] 38)).alloc (.cells #[.slice none 0 0, .slice none 0 0] 38)) = W at *
    refine J.out.mono ?_
    rintro e w2 ⟨rfl, hB1⟩
    have T2 := Lib.hid (T0.out.call hB1)
    clear hB1
    have q0 := T2.out.res 0 _ rfl
    have q1 := T2.out.res 1 _ rfl
    have p0 := T2.out.fr 0
    have p1 := T2.out.fr 1
    obtain ⟨hR, hBB⟩ := T2.out.fin (vs' := [.slice none 0 0, .slice none 0 0]) rfl
    simp only [setL, Nat.zero_add, Nat.reduceAdd] at hR hBB
    have HR := Lib.hid hR
    have HBB := Lib.hid hBB
    clear hR hBB
    go_wp2
    clear q0 q1 p0 p1
    have m0 := HR.out 0 _ rfl
    have m1 := HR.out 1 _ rfl
    refine bodyPost_ret (v := .tuple #[.agg #[.slice none 0 0, .slice none 0 0], .bool false]) (by simp [results, Try.results58, go_sem, m0, m1]) rfl ?_
    exact made_none HBB.out
  · obtain ⟨s1, s2, s3, s4⟩ := are_parts hv
    rw [hv] at J
    have H3 := Lib.hid (fun j (hj : j < tl) => show (ts.getD j []).length ≤ 1000 by have := s3 j (by omega); omega)
    have H4 := Lib.hid (fun k (hk : k < hl) => show inB pl (hs.getD k hd0).1 = true by rw [← hpl]; exact s4 k (by omega))
    clear hv s3 s4
    show Calls _ _ _ _ (fun e w' => Made w w' e true (putF hs cs) ts)
    go_enter Try.func58, Try.ntmps58
    go_wp2_with fail
    generalize ((w.alloc (.cells #[.slice pa pl pc, .slice ta tl tc] 38)).alloc (.cells #[.slice none 0 0, .slice none 0 0] 38)) = W at *
    refine J.out.mono ?_
    rintro e w1 ⟨rfl, hB1⟩
    have T1 := Lib.hid (T0.out.call hB1)
    clear hB1
    go_wp2_with fail
    refine (l04Mesh w.heap.size pa ta ha pl pc tl tc hl hc cs ts hs w1 (T1.out.out 0 _ rfl) (T1.out.out 1 _ rfl) (HP.out.below T1.out.bel) (HT.out.below T1.out.bel) (HH.out.below T1.out.bel) (by omega) (by omega) H3.out H4.out).mono ?_
    rintro e w2 ⟨⟨qa, qc, ra, rc, rfl, hV, hT, hLV, hLT⟩, hB2⟩
    have hlt := T1.out.lt
    have T2 := Lib.hid (T1.out.call hB2)
    have q0 := T2.out.res 0 _ rfl
    have q1 := T2.out.res 1 _ rfl
    have p0 := T2.out.fr 0
    have p1 := T2.out.fr 1
    obtain ⟨hR, hBB⟩ := T2.out.fin (vs' := [.slice qa pl qc, .slice ra tl rc]) rfl
    have hA := Agree.setL (Sy.res (bo := w.heap.size) (br := w.heap.size + 1)) [.slice qa pl qc, .slice ra tl rc] _ 0 (Agree.refl (Sy w.heap.size (w.heap.size + 1)) w2)
    have hs' : ∀ q, w1.heap.size ≤ q → q < w2.heap.size → Sy w.heap.size (w.heap.size + 1) q := Sy.new hlt.1 hlt.2
    have M := Lib.hid (And.intro (vs_agree hV hLV hs' hA) (And.intro (ts_agree hT hLT hs' hA) (And.intro (hLV.wide (lo' := w.heap.size) (by omega) hA.size) ((lt_agree hLT hs' hA).wide (lo' := w.heap.size) (by omega) hA.size))))
    simp only [setL, Nat.zero_add, Nat.reduceAdd] at hR hBB M
    have HR := Lib.hid hR
    have HBB := Lib.hid hBB
    clear hR hBB hA hs' hV hT hLV hLT
    go_wp2
    clear q0 q1 p0 p1
    have m0 := HR.out 0 _ rfl
    have m1 := HR.out 1 _ rfl
    refine bodyPost_ret (v := .tuple #[.agg #[.slice qa pl qc, .slice ra tl rc], .bool true]) (by simp [results, Try.results58, go_sem, m0, m1]) rfl ?_
    have e1 : (putF hs cs).length = pl := by rw [putF_len]; exact hpl
    refine ⟨⟨qa, qc, ra, rc, ?_⟩, HBB.out⟩
    rw [e1, htl]
    exact ⟨rfl, M.out⟩
end Go.Proofs.Ytajglpkeojaelaa

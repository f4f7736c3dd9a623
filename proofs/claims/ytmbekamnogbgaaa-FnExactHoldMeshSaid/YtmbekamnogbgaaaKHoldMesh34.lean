/-
Texts in one: what HoldMesh stands on, part 34. Conditions: those of each.
-/
import Derived.Test.YtmbekamnogbgaaaKHoldMesh33

/-
Meshes that are held: what the model returns. Conditions: the mesh and the holds lie in memory.
-/
namespace Go.Proofs.Ytmbekamnogbgaaa
open Go Fk Go.RowKit
set_option linter.unusedVariables false
set_option maxRecDepth 16000

def rHV (cs : List C3) (ts : List (List Int)) (hs : List HC) : List C3 := bif areB cs ts hs then putF hs cs else []
def rHT (cs : List C3) (ts : List (List Int)) (hs : List HC) : List (List Int) := bif areB cs ts hs then ts else []
theorem are_parts {cs : List C3} {ts : List (List Int)} {hs : List HC} (h : areB cs ts hs = true) : cs.length ≤ 64 ∧ ts.length ≤ 128 ∧ (∀ j, j < ts.length → (ts.getD j []).length = 3) ∧ ∀ k, k < hs.length → inB cs.length (hs.getD k hd0).1 = true := by
  unfold areB at h
  simp only [Bool.and_eq_true] at h
  obtain ⟨h1, h2⟩ := valid_pl h.1
  exact ⟨h1, h2, rows3h h.1, good_in h.2⟩
theorem rH_len (cs : List C3) (ts : List (List Int)) (hs : List HC) : (rHV cs ts hs).length ≤ 64 ∧ (rHT cs ts hs).length ≤ 128 := by
  unfold rHV rHT
  cases h : areB cs ts hs
  · exact ⟨Nat.zero_le _, Nat.zero_le _⟩
  · obtain ⟨h1, h2, _, _⟩ := are_parts h
    exact ⟨by show (putF hs cs).length ≤ 64; rw [putF_len]; exact h1, h2⟩
theorem rHT_3 (cs : List C3) (ts : List (List Int)) (hs : List HC) : ∀ k, k < (rHT cs ts hs).length → ((rHT cs ts hs).getD k []).length = 3 := by
  unfold rHT
  cases h : areB cs ts hs
  · exact fun k hk => absurd hk (Nat.not_lt_zero k)
  · exact (are_parts h).2.2.1
set_option maxHeartbeats 2000000 in
theorem spec_HoldMesh (pa ta ha : Option Addr) (pl pc tl tc hl hc : Nat) (cs : List C3) (ts : List (List Int)) (hs : List HC) (w : World) (hp : IsVs w pa pl pc cs) (ht : IsTs w ta tl tc ts) (hh : IsHs w ha hl hc hs) :
    Calls Try.prog 33 #[.agg #[.slice pa pl pc, .slice ta tl tc], .slice ha hl hc] w fun e w' => Made w w' e (areB cs ts hs) (rHV cs ts hs) (rHT cs ts hs) := by
  have ui := Try.underlying29
  have T0 : Hid (Tc w w.heap.size (w.heap.size + 1) [.slice pa pl pc, .slice ta tl tc] [.slice none 0 0, .slice none 0 0] ((w.alloc (.cells #[.slice pa pl pc, .slice ta tl tc] 29)).alloc (.cells #[.slice none 0 0, .slice none 0 0] 29))) := Lib.hid
    ⟨At.new.alloc, by
      have := At.new (w := w.alloc (.cells #[.slice pa pl pc, .slice ta tl tc] 29)) (vs := [.slice none 0 0, .slice none 0 0]) (t := 29)
      simpa using this, fun i => by go_simp, fun i => by go_simp, ((Below.refl _ _).alloc (Nat.le_refl _) _).alloc (by simp) _, ⟨Nat.le_refl _, by omega, by omega⟩, by simp <;> omega⟩
  have HP := Lib.hid hp
  have HT := Lib.hid ht
  have HH := Lib.hid hh
  have hpl := hp.1
  have htl := ht.1
  have hhl := hh.1
  have J := Lib.hid (l04Are w.heap.size pa ta ha pl pc tl tc hl hc cs ts hs _ (T0.out.out 0 _ rfl) (T0.out.out 1 _ rfl) (hp.below T0.out.bel) (ht.below T0.out.bel) (hh.below T0.out.bel))
  unfold rHV rHT
  clear hp ht hh
  cases hv : areB cs ts hs
  · rw [hv] at J
    clear hv
    go_enter Try.func33, Try.ntmps33
    go_wp2_with fail
    generalize ((w.alloc (.cells #[.slice pa pl pc, .slice ta tl tc] 29)).alloc (.cells #[.slice none 0 0, .slice none 0 0] 29)) = W at *
    refine J.out.mono ?_
    rintro e w2 ⟨rfl, hB1⟩
    have T2 := Lib.hid (T0.out.call hB1)
    clear hB1
    have q0 := T2.out.res 0 _ rfl
    have q1 := T2.out.res 1 _ rfl
    have p0 := T2.out.fr 0
    have p1 := T2.out.fr 1
    obtain ⟨hR, hBB⟩ := T2.out.fin (vs' := [.slice none 0 0, .slice none 0 0]) rfl
    simp only [setL, Nat.zero_add, Nat.reduceAdd] at hR hBB
    have HR := Lib.hid hR
    have HBB := Lib.hid hBB
    clear hR hBB
    go_wp2
    clear q0 q1 p0 p1
    have m0 := HR.out 0 _ rfl
    have m1 := HR.out 1 _ rfl
    refine bodyPost_ret (v := .tuple #[.agg #[.slice none 0 0, .slice none 0 0], .bool false]) (by simp [results, Try.results33, go_sem, m0, m1]) rfl ?_
    exact made_none HBB.out
  · obtain ⟨s1, s2, s3, s4⟩ := are_parts hv
    rw [hv] at J
    have H3 := Lib.hid (fun j (hj : j < tl) => show (ts.getD j []).length ≤ 1000 by have := s3 j (by omega); omega)
    have H4 := Lib.hid (fun k (hk : k < hl) => show inB pl (hs.getD k hd0).1 = true by rw [← hpl]; exact s4 k (by omega))
    clear hv s3 s4
    show Calls _ _ _ _ (fun e w' => Made w w' e true (putF hs cs) ts)
    go_enter Try.func33, Try.ntmps33
    go_wp2_with fail
    generalize ((w.alloc (.cells #[.slice pa pl pc, .slice ta tl tc] 29)).alloc (.cells #[.slice none 0 0, .slice none 0 0] 29)) = W at *
    refine J.out.mono ?_
    rintro e w1 ⟨rfl, hB1⟩
    have T1 := Lib.hid (T0.out.call hB1)
    clear hB1
    go_wp2_with fail
    refine (l04Mesh w.heap.size pa ta ha pl pc tl tc hl hc cs ts hs w1 (T1.out.out 0 _ rfl) (T1.out.out 1 _ rfl) (HP.out.below T1.out.bel) (HT.out.below T1.out.bel) (HH.out.below T1.out.bel) (by omega) (by omega) H3.out H4.out).mono ?_
    rintro e w2 ⟨⟨qa, qc, ra, rc, rfl, hV, hT, hLV, hLT⟩, hB2⟩
    have hlt := T1.out.lt
    have T2 := Lib.hid (T1.out.call hB2)
    have q0 := T2.out.res 0 _ rfl
    have q1 := T2.out.res 1 _ rfl
    have p0 := T2.out.fr 0
    have p1 := T2.out.fr 1
    obtain ⟨hR, hBB⟩ := T2.out.fin (vs' := [.slice qa pl qc, .slice ra tl rc]) rfl
    have hA := Agree.setL (Sy.res (bo := w.heap.size) (br := w.heap.size + 1)) [.slice qa pl qc, .slice ra tl rc] _ 0 (Agree.refl (Sy w.heap.size (w.heap.size + 1)) w2)
    have hs' : ∀ q, w1.heap.size ≤ q → q < w2.heap.size → Sy w.heap.size (w.heap.size + 1) q := Sy.new hlt.1 hlt.2
    have M := Lib.hid (And.intro (vs_agree hV hLV hs' hA) (And.intro (ts_agree hT hLT hs' hA) (And.intro (hLV.wide (lo' := w.heap.size) (by omega) hA.size) ((lt_agree hLT hs' hA).wide (lo' := w.heap.size) (by omega) hA.size))))
    simp only [setL, Nat.zero_add, Nat.reduceAdd] at hR hBB M
    have HR := Lib.hid hR
    have HBB := Lib.hid hBB
    clear hR hBB hA hs' hV hT hLV hLT
    go_wp2
    clear q0 q1 p0 p1
    have m0 := HR.out 0 _ rfl
    have m1 := HR.out 1 _ rfl
    refine bodyPost_ret (v := .tuple #[.agg #[.slice qa pl qc, .slice ra tl rc], .bool true]) (by simp [results, Try.results33, go_sem, m0, m1]) rfl ?_
    have e1 : (putF hs cs).length = pl := by rw [putF_len]; exact hpl
    refine ⟨⟨qa, qc, ra, rc, ?_⟩, HBB.out⟩
    rw [e1, htl]
    exact ⟨rfl, M.out⟩
end Go.Proofs.Ytmbekamnogbgaaa


/-
Meshes that are held: the program puts the places, and all else stays. Conditions: the places are a list of the call's own, the mesh lies in a box of its own.
-/
namespace Go.Proofs.Ytmbekamnogbgaaa
open Go Fk Go.RowKit
set_option linter.unusedVariables false
set_option maxRecDepth 16000

/-- No holds: nothing is put. -/
theorem put_none (ha : Option Addr) (hc : Nat) (B : Nat) (W : World) :
    Calls Try.prog 94 #[.pointer (some ⟨B, 0, none⟩), .slice ha 0 hc] W fun e w' => e = .returned (.tuple #[]) ∧ w' = W := by
  go_enter Try.func94, Try.ntmps94
  go_wp2
  go_loopw [9] (fun i w' => i = .int .i64 0 ∧ Aside (w' = W)) (fun i _ => 0)
  case atStart => exact ⟨rfl, rfl⟩
  case round =>
    obtain ⟨rfl, hA⟩ := hrel
    obtain rfl := hA.out
    go_wp2
    (try simp only [Exit.inBlock, Exit.then]); refine bodyPost_end (results_none rfl _ _ _) rfl ?_; exact ⟨rfl, rfl⟩
set_option maxHeartbeats 2000000 in
theorem put_placesA (ha : Option Addr) (hl hc B g fl cap : Nat) (tv : Value) (hs : List HC) (fs : List C3) (L : List (Nat × List Value)) (w W : World) (hh : IsHs w ha hl hc hs) (hS : St w L g fs W) (hm : (B, [.slice (some ⟨g, 0, none⟩) fl cap, tv]) ∈ L) (hg : ∀ k, k < hl → inB fl (hs.getD k hd0).1 = true) (hfl : fs.length = fl) (hb : fl ≤ 1048576) :
    Calls Try.prog 94 #[.pointer (some ⟨B, 0, none⟩), .slice ha hl hc] W fun e w' => e = .returned (.tuple #[]) ∧ St w L g (putF hs fs) w' ∧ Agree (fun b => b ≠ g) W w' := by
  have ui := Try.underlying29
  have uh := Try.underlying117
  have uv := Try.underlying34
  have hhl := hh.1
  have hM : hl ≤ 9223372036854775807 := by have h1 := hh.2.1; have h2 := hh.2.2.1; unfold maxLen at h2; omega
  have HH := Lib.hid hh
  have HG := Lib.hid hg
  have HM := Lib.hid hm
  have HS0 := Lib.hid hS
  clear hh hg hm hS
  go_enter Try.func94, Try.ntmps94
  go_wp2
  go_loopw [9] (fun i w' => ∃ k : Nat, k ≤ hl ∧ i = .int .i64 k ∧ Aside (St w L g (putF (hs.take k) fs) w' ∧ Agree (fun b => b ≠ g) W w')) (fun i _ => hl - (intOf i).toNat)
  case atStart => exact ⟨0, Nat.zero_le _, rfl, HS0.out, Agree.refl _ _⟩
  case round =>
    obtain ⟨k, hk, rfl, hA⟩ := hrel
    have ST := Lib.hid hA.out.1
    have EK := Lib.hid hA.out.2
    clear hA
    by_cases hlt : k < hl
    · skip
      obtain ⟨b, o, hha, hcell⟩ := HH.out.some (by omega)
      obtain ⟨h, hq, hi⟩ := hcell k hlt
      have hlk : k < hs.length := by omega
      have hk0 : (0 : Int) ≤ (k : Int) := by omega
      have hk1 : (k : Int) < (hl : Int) := by omega
      have hin := of_decide_eq_true (HG.out k hlt)
      have hpz : h.p = (hs.getD k hd0).1 := hi.1
      rw [← hpz] at hin
      have p0 : (0 : Int) ≤ h.p := hin.1
      have p1 : h.p < (fl : Int) := by omega
      have LT : Hid (h.p.toNat < (putF (hs.take k) fs).length) := Lib.hid (by rw [putF_len]; omega)
      have hsn := putF_snoc hs fs k hlk
      unfold put1 at hsn
      rw [← hpz] at hsn
      have hnl := putF_len (hs.take k) fs
      have HSN := Lib.hid hsn
      have HNL := Lib.hid hnl
      have HI := Lib.hid hi
      obtain ⟨NP, hNP⟩ : ∃ NP, (putF (hs.take k) fs).getD h.p.toNat c0 = NP := ⟨_, rfl⟩
      rw [hNP] at HSN
      generalize hs.getD k hd0 = HCk at *
      generalize putF (hs.take k) fs = NX at *
      have HNP := Lib.hid hNP
      have QH := Lib.hid hq
      clear hcell hin hpz hsn hnl hi hNP
      rw [hha]
      have HPA := Lib.hid hha
      clear hha
      have HQW := QH.out.below ST.out.bel
      have c0 := HQW 0 (by omega)
      have c1 := HQW 1 (by omega)
      have c2 := HQW 2 (by omega)
      have c3 := HQW 3 (by omega)
      have c4 := HQW 4 (by omega)
      have c5 := HQW 5 (by omega)
      have c6 := HQW 6 (by omega)
      have c7 := HQW 7 (by omega)
      simp only [HW.l, List.getElem?_cons_zero, List.getElem?_cons_succ, Nat.add_zero] at c0 c1 c2 c3 c4 c5 c6 c7
      have ST1 := Lib.hid (ST.out.box (vs := h.l) (t := 117))
      have EA1 : Hid (Agree (fun b => b ≠ g) W (wr.alloc (HBox h 117))) := Lib.hid (EK.out.trans (Agree.of_below ((Below.refl _ _).alloc (Nat.le_refl _) _)))
      clear hq HQW
      go_wp2_with fail
      clear c0 c1 c2 c3 c4 c5 c6 c7
      change Hid (St w _ g _ (wr.alloc (HBox h 117))) at ST1
      change (Code.region _ _ _).wp _ _ _ (wr.alloc (HBox h 117))
      generalize (wr.alloc (HBox h 117)) = W3 at *
      generalize wr.heap.size = PB at *
      refine Reg.wp_region_mix (C := fun w' => St w ((PB, h.l) :: L) g NX w' ∧ Agree (fun b => b ≠ g) W w') (G := fun _ _ => True) (R := fun i v w' => match i with | 0 => v = .pointer (some ⟨B, 0, none⟩) | 1 => v = .pointer (some ⟨B, 0, none⟩) | 2 => v = .pointer (some ⟨B, 0, none⟩) | 3 => v = .slice (some ⟨g, 0, none⟩) fl cap | 4 => v = .pointer (some ⟨PB, 0, none⟩) | 5 => v = .int .i64 h.p | 6 => v = .pointer (some ⟨g, h.p.toNat * 3, none⟩) | 7 => v = .pointer (some ⟨g, h.p.toNat * 3, none⟩) | _ => True) (T := fun _ _ _ => True) [false, false, false, false, false, false, true, false, false, false, false, false, false, true, true, true, true, true, true, true, false, false, false, false, false, false, false, false]
        (by kernel_rfl) (by kernel_rfl) (by kernel_rfl) (fun _ _ _ _ _ _ h => h) ⟨ST1.out.drewN 1, EA1.out.trans (Agree.of_below (below_drewN (Below.refl _ _) 1))⟩ ?_ ?_
      · refine ⟨Reg.Obl.mk ?_, Reg.Obl.mk ?_, Reg.Obl.mk ?_, Reg.Obl.mk ?_, Reg.Obl.mk ?_, Reg.Obl.mk ?_, Reg.Obl.mk ?_, Reg.Obl.mk ?_, trivial⟩
        · rintro a w1 hC hx hd K hK
          have HC := Lib.hid hC
          clear hC
          have t0 : a.tmps[0]?.getD undef = .pointer (some ⟨B, 0, none⟩) := Reg.slot_val (hx 0 (by kernel_rfl))
          go_simp
          exact hK _ _ (fun _ => rfl) (fun h => by cases h) HC.out trivial
        · rintro a w1 hC hx hd K hK
          have HC := Lib.hid hC
          clear hC
          have t13 : a.tmps[13]?.getD undef = .pointer (some ⟨B, 0, none⟩) := Reg.slot_val (hd 0 (by kernel_rfl) 13 rfl)
          go_simp
          exact hK _ _ (fun _ => rfl) (fun h => by cases h) HC.out trivial
        · rintro a w1 hC hx hd K hK
          have HC := Lib.hid hC
          clear hC
          have t14 : a.tmps[14]?.getD undef = .pointer (some ⟨B, 0, none⟩) := Reg.slot_val (hd 1 (by kernel_rfl) 14 rfl)
          go_simp
          exact hK _ _ (fun _ => rfl) (fun h => by cases h) HC.out trivial
        · rintro a w1 hC hx hd K hK
          have HC := Lib.hid hC
          clear hC
          have y0 := (HC.out.1.mem (.tail _ HM.out)) 0 _ rfl
          have t15 : a.tmps[15]?.getD undef = .pointer (some ⟨B, 0, none⟩) := Reg.slot_val (hd 2 (by kernel_rfl) 15 rfl)
          go_simp
          exact hK _ _ (fun _ => rfl) (fun h => by cases h) HC.out trivial
        · rintro a w1 hC hx hd K hK
          have HC := Lib.hid hC
          clear hC
          have t5 : a.tmps[5]?.getD undef = .pointer (some ⟨PB, 0, none⟩) := Reg.slot_val (hx 5 (by kernel_rfl))
          go_simp
          exact hK _ _ (fun _ => rfl) (fun h => by cases h) HC.out trivial
        · rintro a w1 hC hx hd K hK
          have HC := Lib.hid hC
          clear hC
          have y0 := (HC.out.1.mem (.head _)) 0 _ rfl
          have t17 : a.tmps[17]?.getD undef = .pointer (some ⟨PB, 0, none⟩) := Reg.slot_val (hd 4 (by kernel_rfl) 17 rfl)
          go_simp
          exact hK _ _ (fun _ => rfl) (fun h => by cases h) HC.out trivial
        · rintro a w1 hC hx hd K hK
          have HC := Lib.hid hC
          clear hC
          have t16 : a.tmps[16]?.getD undef = .slice (some ⟨g, 0, none⟩) fl cap := Reg.slot_val (hd 3 (by kernel_rfl) 16 rfl)
          have t18 : a.tmps[18]?.getD undef = .int .i64 h.p := Reg.slot_val (hd 5 (by kernel_rfl) 18 rfl)
          go_simp
          exact hK _ _ (fun _ => rfl) (fun h => by cases h) HC.out trivial
        · rintro a w1 hC hx hd K hK
          have HC := Lib.hid hC
          clear hC
          have t19 : a.tmps[19]?.getD undef = .pointer (some ⟨g, h.p.toNat * 3, none⟩) := Reg.slot_val (hd 6 (by kernel_rfl) 19 rfl)
          go_simp
          exact hK _ _ (fun _ => rfl) (fun h => by cases h) HC.out trivial
      rintro f w4 hC hd hT
      have g6 : f 6 = .pointer (some ⟨g, h.p.toNat * 3, none⟩) := hd 7 6 rfl
      simp only [Reg.mixL, g6]
      have ST4 := Lib.hid hC.1
      have EA4 := Lib.hid hC.2
      clear hC hd hT g6
      go_wp2_with fail
      refine Reg3.wp_region_mix (C := fun w' => St w ((PB, h.l) :: L) g NX w' ∧ Agree (fun b => b ≠ g) W w') (G := fun _ _ => True) (R := fun i v w' => match i with | 0 => v = .pointer (some ⟨g, h.p.toNat * 3, none⟩) | 1 => v = .agg #[.int .i64 h.p, .int .i64 h.k, .float .f32 h.x, .float .f32 h.y, .float .f32 h.z, .float .f32 h.s, .float .f32 h.t, .float .f32 h.u] | 2 => v = .pointer (some ⟨g, h.p.toNat * 3, none⟩) | 3 => v = .pointer (some ⟨g, h.p.toNat * 3, none⟩) | 4 => ∃ p q r, v = vv p q r ∧ F3 p q r NP | 5 => ∃ p q r, v = vv p q r ∧ F3 p q r (putC HCk NP) | 6 => v = .pointer (some ⟨g, h.p.toNat * 3, none⟩) | _ => True) (T := fun _ _ w' => St w ((PB, h.l) :: L) g (NX.set h.p.toNat (putC HCk NP)) w' ∧ Agree (fun b => b ≠ g) W w') [false, false, false, false, false, false, false, false, false, false, false, false, false, false, false, false, false, false, false, false, true, true, true, true, true, true, true, false]
        (by kernel_rfl) (by kernel_rfl) (by kernel_rfl) (fun _ _ _ _ _ _ h => h) ⟨ST4.out.drewN 1, EA4.out.trans (Agree.of_below (below_drewN (Below.refl _ _) 1))⟩ ?_ ?_
      · refine ⟨Reg3.Obl.mk ?_, Reg3.Obl.mk ?_, Reg3.Obl.mk ?_, Reg3.Obl.mk ?_, Reg3.Obl.mk ?_, Reg3.Obl.mk ?_, Reg3.Obl.mk ?_, Reg3.Obl.mk ?_, trivial⟩
        · rintro a w1 hC hx hd K hK
          have HC := Lib.hid hC
          clear hC
          have t6 : a.tmps[6]?.getD undef = .pointer (some ⟨g, h.p.toNat * 3, none⟩) := Reg.slot_val (hx 6 (by kernel_rfl))
          go_simp
          exact hK _ _ (fun _ => rfl) (fun h => by cases h) (fun _ => HC.out) trivial
        · rintro a w1 hC hx hd K hK
          have HC := Lib.hid hC
          clear hC
          have y0 := (HC.out.1.mem (.head _)) 0 _ rfl
          have y1 := (HC.out.1.mem (.head _)) 1 _ rfl
          have y2 := (HC.out.1.mem (.head _)) 2 _ rfl
          have y3 := (HC.out.1.mem (.head _)) 3 _ rfl
          have y4 := (HC.out.1.mem (.head _)) 4 _ rfl
          have y5 := (HC.out.1.mem (.head _)) 5 _ rfl
          have y6 := (HC.out.1.mem (.head _)) 6 _ rfl
          have y7 := (HC.out.1.mem (.head _)) 7 _ rfl
          have t5 : a.tmps[5]?.getD undef = .pointer (some ⟨PB, 0, none⟩) := Reg.slot_val (hx 5 (by kernel_rfl))
          go_simp
          exact hK _ _ (fun _ => rfl) (fun h => by cases h) (fun _ => HC.out) trivial
        · rintro a w1 hC hx hd K hK
          have HC := Lib.hid hC
          clear hC
          have t6 : a.tmps[6]?.getD undef = .pointer (some ⟨g, h.p.toNat * 3, none⟩) := Reg.slot_val (hx 6 (by kernel_rfl))
          go_simp
          exact hK _ _ (fun _ => rfl) (fun h => by cases h) (fun _ => HC.out) trivial
        · rintro a w1 hC hx hd K hK
          have HC := Lib.hid hC
          clear hC
          have t22 : a.tmps[22]?.getD undef = .pointer (some ⟨g, h.p.toNat * 3, none⟩) := Reg.slot_val (hd 2 (by kernel_rfl) 22 rfl)
          go_simp
          exact hK _ _ (fun _ => rfl) (fun h => by cases h) (fun _ => HC.out) trivial
        · rintro a w1 hC hx hd K hK
          have HC := Lib.hid hC
          clear hC
          obtain ⟨pp, qq, rr, ⟨y0, y1, y2⟩, hf⟩ := HC.out.1.own.at (k := h.p.toNat) LT.out
          rw [HNP.out] at hf
          have t23 : a.tmps[23]?.getD undef = .pointer (some ⟨g, h.p.toNat * 3, none⟩) := Reg.slot_val (hd 3 (by kernel_rfl) 23 rfl)
          go_simp
          exact hK _ _ (fun _ => ⟨pp, qq, rr, rfl, hf⟩) (fun h => by cases h) (fun _ => HC.out) trivial
        · rintro a w1 hC hx hd K hK
          have HC := Lib.hid hC
          clear hC
          have t21 : a.tmps[21]?.getD undef = .agg #[.int .i64 h.p, .int .i64 h.k, .float .f32 h.x, .float .f32 h.y, .float .f32 h.z, .float .f32 h.s, .float .f32 h.t, .float .f32 h.u] := Reg.slot_val (hd 1 (by kernel_rfl) 21 rfl)
          obtain ⟨p24, q24, r24, g24, f24⟩ := hd 4 (by kernel_rfl) 24 rfl
          have t24 := Reg.slot_val g24
          clear g24
          go_simp
          refine (impl_puts h HCk _ _ _ _ _ HI.out f24).mono ?_
          rintro en w2 ⟨p', q', r', rfl, hF, hB2⟩
          exact hK _ _ (fun _ => ⟨p', q', r', rfl, hF⟩) (fun h => by cases h) (fun _ => ⟨HC.out.1.call hB2, HC.out.2.trans (Agree.of_below hB2)⟩) trivial
        · rintro a w1 hC hx hd K hK
          have HC := Lib.hid hC
          clear hC
          have t20 : a.tmps[20]?.getD undef = .pointer (some ⟨g, h.p.toNat * 3, none⟩) := Reg.slot_val (hd 0 (by kernel_rfl) 20 rfl)
          go_simp
          exact hK _ _ (fun _ => rfl) (fun h => by cases h) (fun _ => HC.out) trivial
        · rintro a w1 hC hx hd K hK
          have HC := Lib.hid hC
          clear hC
          have t26 : a.tmps[26]?.getD undef = .pointer (some ⟨g, h.p.toNat * 3, none⟩) := Reg.slot_val (hd 6 (by kernel_rfl) 26 rfl)
          obtain ⟨p25, q25, r25, g25, f25⟩ := hd 5 (by kernel_rfl) 25 rfl
          have t25 := Reg.slot_val g25
          clear g25
          obtain ⟨u0, u1, u2, ⟨x0, x1, x2⟩, _⟩ := HC.out.1.own.at (k := h.p.toNat) LT.out
          have k0 := HC.out.1.own.2.1 (h.p.toNat * 3)
          have k1 := HC.out.1.own.2.1 (h.p.toNat * 3 + 1)
          have k2 := HC.out.1.own.2.1 (h.p.toNat * 3 + 2)
          go_simp
          exact hK undef _ (fun h => absurd rfl h) (fun _ => ⟨HC.out.1.put LT.out f25, ((HC.out.2.set (fun hb => hb rfl)).set (fun hb => hb rfl)).set (fun hb => hb rfl)⟩) (fun h => absurd rfl h) trivial
      rintro f w5 hd hT
      have hS := hT 7 (by kernel_rfl) (by decide)
      simp only [Reg.mixL]
      have ST2 := Lib.hid hS.1.drop
      have EA2 := Lib.hid hS.2
      clear hd hT hS
      go_wp2
      go_roundw
      case rel => exact ⟨k + 1, by omega, by go_num, by rw [HSN.out]; exact ⟨ST2.out, EA2.out⟩⟩
      case measure => simp [intOf]; omega
    · obtain rfl : k = hl := by omega
      have hall : hs.take k = hs := by rw [← hhl]; exact List.take_length
      rw [hall] at ST
      go_wp2
      (try simp only [Exit.inBlock, Exit.then]); refine bodyPost_end (results_none rfl _ _ _) rfl ?_; exact ⟨rfl, ST.out, EK.out⟩
end Go.Proofs.Ytmbekamnogbgaaa


/-
A body whose places are moved: what the model makes. Conditions: all lie in memory, of one length.
-/
namespace Go.Proofs.Ytmbekamnogbgaaa
open Go Fk Go.RowKit
set_option linter.unusedVariables false
set_option maxRecDepth 8000

set_option maxHeartbeats 4000000 in
theorem l03Moved (pb : Nat) (B : Bd) (c : Bc) (a : Option Addr) (cap : Nat) (ys : List C3) (x : Nat) (d : Option Nat) (w : World) (A : At w pb B.l) (h : IsB w B c) (hv : IsVs w a B.pl cap ys) (hx : FV .f32 x d) (hpl : B.pl ≤ 1000) (htl : B.tl ≤ 1000) (h3 : ∀ k, k < B.tl → (c.ts.getD k []).length ≤ 1000) (hsl : B.sl ≤ 1000) (hwl : B.wl ≤ 1000) :
    Calls Try.prog 83 #[.pointer (some ⟨pb, 0, none⟩), .slice a B.pl cap, .float .f32 x] w fun e w' => ∃ B' : Bd, e = .returned B'.v ∧ IsB w' B' (mvC c ys d) ∧ LB w.heap.size w'.heap.size w' B' ∧ Below w.heap.size w w' := by
  have ui := Try.underlying36
  have uim := Try.underlying29
  have hm : B.pl ≤ 9223372036854775807 := by omega
  have B0 : Hid (Below w.heap.size w (w.alloc (.cells #[.slice none 0 0, .slice none 0 0, .slice none 0 0, .float .f32 0, .float .f32 0, .slice none 0 0, .float .f32 0, .float .f32 0, .float .f32 0] 36))) := Lib.hid ((Below.refl _ _).alloc (Nat.le_refl _) _)
  have A0 : Hid (At (w.alloc (.cells #[.slice none 0 0, .slice none 0 0, .slice none 0 0, .float .f32 0, .float .f32 0, .slice none 0 0, .float .f32 0, .float .f32 0, .float .f32 0] 36)) w.heap.size Z9') := Lib.hid At.new
  have F0 : Hid (∀ i, (w.alloc (.cells #[.slice none 0 0, .slice none 0 0, .slice none 0 0, .float .f32 0, .float .f32 0, .slice none 0 0, .float .f32 0, .float .f32 0, .float .f32 0] 36)).frozen? ⟨w.heap.size, i, none⟩ = false) := Lib.hid (fun i => by go_simp)
  have hsz : (w.alloc (.cells #[.slice none 0 0, .slice none 0 0, .slice none 0 0, .float .f32 0, .float .f32 0, .slice none 0 0, .float .f32 0, .float .f32 0, .float .f32 0] 36)).heap.size = w.heap.size + 1 := by simp
  have SZ := Lib.hid hsz
  have HA := Lib.hid A
  have H := Lib.hid h
  have HV := Lib.hid hv
  have HX := Lib.hid hx
  have LN := Lib.hid h.lens
  have HOWN := Lib.hid (l03OwnP pb B c _ (A.below B0.out) (h.below B0.out) hpl htl h3 hsl hwl)
  unfold mvC
  rw [LN.out.1]
  clear h hv hx h3 hsz A
  go_enter Try.func83, Try.ntmps83
  go_wp2_with fail
  generalize (w.alloc (.cells #[.slice none 0 0, .slice none 0 0, .slice none 0 0, .float .f32 0, .float .f32 0, .slice none 0 0, .float .f32 0, .float .f32 0, .float .f32 0] 36)) = W at *
  refine HOWN.out.mono ?_
  rintro e w1 ⟨B', rfl, hI, hL, hX, hpl', hB1⟩
  have hs1 := hB1.size
  rw [SZ.out] at hs1 hL
  rw [← hpl'] at hX
  obtain ⟨g, g1, g2, hZ⟩ := pz_of hL hX hs1
  have hN : Below w1.heap.size w1 (w1.alloc (.cells #[.slice B'.pa B'.pl B'.pc, .slice B'.ta B'.tl B'.tc, .slice B'.sa B'.sl B'.sc, .float .f32 B'.film, .float .f32 B'.bend, .slice B'.wa B'.wl B'.wc, .float .f32 B'.x, .float .f32 B'.y, .float .f32 B'.z] 36)) := (Below.refl _ _).alloc (Nat.le_refl _) _
  have T0 : Hid (Tc w w1.heap.size w.heap.size B'.l Z9' (w1.alloc (.cells #[.slice B'.pa B'.pl B'.pc, .slice B'.ta B'.tl B'.tc, .slice B'.sa B'.sl B'.sc, .float .f32 B'.film, .float .f32 B'.bend, .slice B'.wa B'.wl B'.wc, .float .f32 B'.x, .float .f32 B'.y, .float .f32 B'.z] 36))) := Lib.hid
    ⟨At.new, (A0.out.below hB1).below hN, fun i => by go_simp, fun i => by rw [hN.frozen (p := ⟨w.heap.size, i, none⟩) (show w.heap.size < w1.heap.size by omega), hB1.frozen (p := ⟨w.heap.size, i, none⟩) (show w.heap.size < W.heap.size by rw [SZ.out]; omega)]; exact F0.out i, (B0.out.trans (hB1.mono B0.out.size)).trans (hN.mono (by omega)), ⟨by omega, Nat.le_refl _, by omega⟩, by simp <;> omega⟩
  have K := Lib.hid (And.intro hI (And.intro hL hZ))
  have G := Lib.hid (And.intro g1 g2)
  have O0 : Hid (B'.pl = 0 ∨ OwnVs (w1.alloc (.cells #[.slice B'.pa B'.pl B'.pc, .slice B'.ta B'.tl B'.tc, .slice B'.sa B'.sl B'.sc, .float .f32 B'.film, .float .f32 B'.bend, .slice B'.wa B'.wl B'.wc, .float .f32 B'.x, .float .f32 B'.y, .float .f32 B'.z] 36)) g (mkW c.cs ys d B.pl 0)) := Lib.hid (hZ.1.imp id fun k => by rw [mkW_zero LN.out.1]; exact k.2.below hN)
  have E0 : Hid (Agree (fun b => b ≠ g ∧ w.heap.size + 1 ≤ b ∧ b < w1.heap.size) w1 (w1.alloc (.cells #[.slice B'.pa B'.pl B'.pc, .slice B'.ta B'.tl B'.tc, .slice B'.sa B'.sl B'.sc, .float .f32 B'.film, .float .f32 B'.bend, .slice B'.wa B'.wl B'.wc, .float .f32 B'.x, .float .f32 B'.y, .float .f32 B'.z] 36))) := Lib.hid (Agree.of_below hN)
  have HPL := Lib.hid hpl'
  have PA : Hid (B'.pl = 0 ∨ B'.pa = some ⟨g, 0, none⟩) := Lib.hid (hZ.1.imp id (fun k => k.1))
  have S1 := Lib.hid hs1
  clear hI hL hX hZ hN hB1 hs1 hpl' g1 g2
  go_wp2
  generalize (w1.alloc (.cells #[.slice B'.pa B'.pl B'.pc, .slice B'.ta B'.tl B'.tc, .slice B'.sa B'.sl B'.sc, .float .f32 B'.film, .float .f32 B'.bend, .slice B'.wa B'.wl B'.wc, .float .f32 B'.x, .float .f32 B'.y, .float .f32 B'.z] 36)) = W2 at *
  go_loopw [13] (fun i w' => ∃ k : Nat, k ≤ B.pl ∧ i = .int .i64 k ∧ Aside (Tc w w1.heap.size w.heap.size B'.l Z9' w' ∧ (B'.pl = 0 ∨ OwnVs w' g (mkW c.cs ys d B.pl k)) ∧ Agree (fun b => b ≠ g ∧ w.heap.size + 1 ≤ b ∧ b < w1.heap.size) w1 w')) (fun i _ => B.pl - (intOf i).toNat)
  case atStart => exact ⟨0, Nat.zero_le _, rfl, T0.out, O0.out, E0.out⟩
  case round =>
    obtain ⟨k, hk, rfl, hA⟩ := hrel
    have TK := Lib.hid hA.out.1
    have OK := Lib.hid hA.out.2.1
    have EK := Lib.hid hA.out.2.2
    clear hA
    by_cases hlt : k < B.pl
    · obtain ⟨b1, o1, e1, hcell1⟩ := (H.out.1.below TK.out.bel).some (by omega)
      obtain ⟨b2, o2, rfl, hcell2⟩ := (HV.out.below TK.out.bel).some (by omega)
      obtain ⟨p, q, t, c0', c1', c2', e0, e1', e2⟩ := hcell1 k hlt
      obtain ⟨p', q', t', d0', d1', d2', g0, g1, g2⟩ := hcell2 k hlt
      have hne : ¬ B'.pl = 0 := by rw [HPL.out]; omega
      have hk0 : (0 : Int) ≤ (k : Int) := by omega
      have hk1 : (k : Int) < (B.pl : Int) := by omega
      have hk2 : (k : Int) < (B'.pl : Int) := by rw [HPL.out]; omega
      have HSN := Lib.hid (mkW_set (xs := c.cs) (ys := ys) (d := d) hlt)
      have FA := Lib.hid (And.intro e0 (And.intro e1' e2))
      have FB := Lib.hid (And.intro g0 (And.intro g1 g2))
      have CC := Lib.hid (And.intro c0' (And.intro c1' c2'))
      have DD := Lib.hid (And.intro d0' (And.intro d1' d2'))
      have O1 := Lib.hid (OK.out.resolve_left hne)
      have hpa := PA.out.resolve_left hne
      have CO := TK.out.out 0 _ rfl
      rw [hpa] at CO
      have CM := (HA.out.below TK.out.bel) 0 _ rfl
      rw [e1] at CM
      have CO := Lib.hid CO
      have CM := Lib.hid CM
      clear hcell1 hcell2 e0 e1' e2 g0 g1 g2 c0' c1' c2' d0' d1' d2' hpa e1 hne
      go_wp2_with fail
      refine Reg6.wp_region_mix (s := 20) (C := fun w' => Below wr.heap.size wr w') (D := fun _ w' => ∃ wp y z v, Below wr.heap.size wr wp ∧ F3 y z v (movC (c.cs.getD k c0) (ys.getD k c0) d) ∧ w' = put3 wp g k y z v) (G := fun w1 w2 => Below w1.heap.size w1 w2)
        (Rv := fun i v => match i with | 0 => v = .pointer (some ⟨w1.heap.size, 0, none⟩) | 1 => v = .pointer (some ⟨w1.heap.size, 0, none⟩) | 2 => v = .slice (some ⟨g, 0, none⟩) B'.pl B'.pc | 3 => v = .int .i64 k | 4 => v = .pointer (some ⟨pb, 0, none⟩) | 5 => v = .pointer (some ⟨pb, 0, none⟩) | 6 => v = .pointer (some ⟨pb, 0, none⟩) | 7 => v = .pointer (some ⟨pb, 0, none⟩) | 8 => v = .slice (some ⟨b1, o1, none⟩) B.pl B.pc | 9 => v = .int .i64 k | 10 => v = .pointer (some ⟨b1, o1 + k * 3, none⟩) | 11 => v = vv p q t | 12 => v = .slice (some ⟨b2, o2, none⟩) B.pl cap | 13 => v = .int .i64 k | 14 => v = .pointer (some ⟨b2, o2 + k * 3, none⟩) | 15 => v = vv p' q' t' | 16 => v = .float .f32 x | 17 => ∃ y z u, v = vv y z u ∧ F3 y z u (scaleC' (ys.getD k c0) d) | 18 => ∃ y z u, v = vv y z u ∧ F3 y z u (movC (c.cs.getD k c0) (ys.getD k c0) d) | 19 => v = .pointer (some ⟨g, k * 3, none⟩) | _ => True)
        (Rw := fun _ _ _ => True) [false, false, false, false, false, false, false, false, false, false, false, false, false, false, false, false, true, true, true, true, true, true, true, true, true, true, true, true, true, true, true, true, true, true, true, true, false, false]
        (by kernel_rfl) (by kernel_rfl) (by kernel_rfl) (fun _ _ _ _ _ _ _ => trivial) (below_drewN (Below.refl _ _) 1) ?_ ?_
      · refine ⟨?_, ?_, ?_, ?_, ?_, ?_, ?_, ?_, ?_, ?_, ?_, ?_, ?_, ?_, ?_, ?_, ?_, ?_, ?_, ?_, ?_, trivial⟩
        · refine Reg6.Obl.early rfl (by kernel_rfl) ?_
          rintro av wq hC hx hd K hK
          have HC := Lib.hid hC
          clear hC
          have t7 : av.tmps[7]?.getD undef = .pointer (some ⟨w1.heap.size, 0, none⟩) := Reg.slot_val (hx 7 (by kernel_rfl))
          go_simp
          exact hK _ _ rfl trivial HC.out (Below.refl _ _)
        · refine Reg6.Obl.early rfl (by kernel_rfl) ?_
          rintro av wq hC hx hd K hK
          have HC := Lib.hid hC
          clear hC
          have t16 : av.tmps[16]?.getD undef = .pointer (some ⟨w1.heap.size, 0, none⟩) := Reg.slot_val (hd 0 16 (by kernel_rfl) rfl).1
          go_simp
          exact hK _ _ rfl trivial HC.out (Below.refl _ _)
        · refine Reg6.Obl.early rfl (by kernel_rfl) ?_
          rintro av wq hC hx hd K hK
          have HC := Lib.hid hC
          clear hC
          have t17 : av.tmps[17]?.getD undef = .pointer (some ⟨w1.heap.size, 0, none⟩) := Reg.slot_val (hd 1 17 (by kernel_rfl) rfl).1
          have y0 := cell_below HC.out CO.out
          go_simp
          exact hK _ _ rfl trivial HC.out (Below.refl _ _)
        · refine Reg6.Obl.early rfl (by kernel_rfl) ?_
          rintro av wq hC hx hd K hK
          have HC := Lib.hid hC
          clear hC
          have t8 : av.tmps[8]?.getD undef = .int .i64 k := Reg.slot_val (hx 8 (by kernel_rfl))
          go_simp
          exact hK _ _ rfl trivial HC.out (Below.refl _ _)
        · refine Reg6.Obl.early rfl (by kernel_rfl) ?_
          rintro av wq hC hx hd K hK
          have HC := Lib.hid hC
          clear hC
          have t0 : av.tmps[0]?.getD undef = .pointer (some ⟨pb, 0, none⟩) := Reg.slot_val (hx 0 (by kernel_rfl))
          go_simp
          exact hK _ _ rfl trivial HC.out (Below.refl _ _)
        · refine Reg6.Obl.early rfl (by kernel_rfl) ?_
          rintro av wq hC hx hd K hK
          have HC := Lib.hid hC
          clear hC
          have t20 : av.tmps[20]?.getD undef = .pointer (some ⟨pb, 0, none⟩) := Reg.slot_val (hd 4 20 (by kernel_rfl) rfl).1
          go_simp
          exact hK _ _ rfl trivial HC.out (Below.refl _ _)
        · refine Reg6.Obl.early rfl (by kernel_rfl) ?_
          rintro av wq hC hx hd K hK
          have HC := Lib.hid hC
          clear hC
          have t21 : av.tmps[21]?.getD undef = .pointer (some ⟨pb, 0, none⟩) := Reg.slot_val (hd 5 21 (by kernel_rfl) rfl).1
          go_simp
          exact hK _ _ rfl trivial HC.out (Below.refl _ _)
        · refine Reg6.Obl.early rfl (by kernel_rfl) ?_
          rintro av wq hC hx hd K hK
          have HC := Lib.hid hC
          clear hC
          have t22 : av.tmps[22]?.getD undef = .pointer (some ⟨pb, 0, none⟩) := Reg.slot_val (hd 6 22 (by kernel_rfl) rfl).1
          go_simp
          exact hK _ _ rfl trivial HC.out (Below.refl _ _)
        · refine Reg6.Obl.early rfl (by kernel_rfl) ?_
          rintro av wq hC hx hd K hK
          have HC := Lib.hid hC
          clear hC
          have t23 : av.tmps[23]?.getD undef = .pointer (some ⟨pb, 0, none⟩) := Reg.slot_val (hd 7 23 (by kernel_rfl) rfl).1
          have y0 := cell_below HC.out CM.out
          go_simp
          exact hK _ _ rfl trivial HC.out (Below.refl _ _)
        · refine Reg6.Obl.early rfl (by kernel_rfl) ?_
          rintro av wq hC hx hd K hK
          have HC := Lib.hid hC
          clear hC
          have t8 : av.tmps[8]?.getD undef = .int .i64 k := Reg.slot_val (hx 8 (by kernel_rfl))
          go_simp
          exact hK _ _ rfl trivial HC.out (Below.refl _ _)
        · refine Reg6.Obl.early rfl (by kernel_rfl) ?_
          rintro av wq hC hx hd K hK
          have HC := Lib.hid hC
          clear hC
          have t24 : av.tmps[24]?.getD undef = .slice (some ⟨b1, o1, none⟩) B.pl B.pc := Reg.slot_val (hd 8 24 (by kernel_rfl) rfl).1
          have t25 : av.tmps[25]?.getD undef = .int .i64 k := Reg.slot_val (hd 9 25 (by kernel_rfl) rfl).1
          go_simp
          exact hK _ _ rfl trivial HC.out (Below.refl _ _)
        · refine Reg6.Obl.early rfl (by kernel_rfl) ?_
          rintro av wq hC hx hd K hK
          have HC := Lib.hid hC
          clear hC
          have t26 : av.tmps[26]?.getD undef = .pointer (some ⟨b1, o1 + k * 3, none⟩) := Reg.slot_val (hd 10 26 (by kernel_rfl) rfl).1
          have y0 := cell_below HC.out CC.out.1
          have y1 := cell_below HC.out CC.out.2.1
          have y2 := cell_below HC.out CC.out.2.2
          go_simp
          exact hK _ _ rfl trivial HC.out (Below.refl _ _)
        · refine Reg6.Obl.early rfl (by kernel_rfl) ?_
          rintro av wq hC hx hd K hK
          have HC := Lib.hid hC
          clear hC
          have t1 : av.tmps[1]?.getD undef = .slice (some ⟨b2, o2, none⟩) B.pl cap := Reg.slot_val (hx 1 (by kernel_rfl))
          go_simp
          exact hK _ _ rfl trivial HC.out (Below.refl _ _)
        · refine Reg6.Obl.early rfl (by kernel_rfl) ?_
          rintro av wq hC hx hd K hK
          have HC := Lib.hid hC
          clear hC
          have t8 : av.tmps[8]?.getD undef = .int .i64 k := Reg.slot_val (hx 8 (by kernel_rfl))
          go_simp
          exact hK _ _ rfl trivial HC.out (Below.refl _ _)
        · refine Reg6.Obl.early rfl (by kernel_rfl) ?_
          rintro av wq hC hx hd K hK
          have HC := Lib.hid hC
          clear hC
          have t28 : av.tmps[28]?.getD undef = .slice (some ⟨b2, o2, none⟩) B.pl cap := Reg.slot_val (hd 12 28 (by kernel_rfl) rfl).1
          have t29 : av.tmps[29]?.getD undef = .int .i64 k := Reg.slot_val (hd 13 29 (by kernel_rfl) rfl).1
          go_simp
          exact hK _ _ rfl trivial HC.out (Below.refl _ _)
        · refine Reg6.Obl.early rfl (by kernel_rfl) ?_
          rintro av wq hC hx hd K hK
          have HC := Lib.hid hC
          clear hC
          have t30 : av.tmps[30]?.getD undef = .pointer (some ⟨b2, o2 + k * 3, none⟩) := Reg.slot_val (hd 14 30 (by kernel_rfl) rfl).1
          have y0 := cell_below HC.out DD.out.1
          have y1 := cell_below HC.out DD.out.2.1
          have y2 := cell_below HC.out DD.out.2.2
          go_simp
          exact hK _ _ rfl trivial HC.out (Below.refl _ _)
        · refine Reg6.Obl.early rfl (by kernel_rfl) ?_
          rintro av wq hC hx hd K hK
          have HC := Lib.hid hC
          clear hC
          have t2 : av.tmps[2]?.getD undef = .float .f32 x := Reg.slot_val (hx 2 (by kernel_rfl))
          go_simp
          exact hK _ _ rfl trivial HC.out (Below.refl _ _)
        · refine Reg6.Obl.early rfl (by kernel_rfl) ?_
          rintro av wq hC hx hd K hK
          have HC := Lib.hid hC
          clear hC
          have t31 : av.tmps[31]?.getD undef = vv p' q' t' := Reg.slot_val (hd 15 31 (by kernel_rfl) rfl).1
          have t32 : av.tmps[32]?.getD undef = .float .f32 x := Reg.slot_val (hd 16 32 (by kernel_rfl) rfl).1
          go_simp
          refine (l01Scale _ _ _ _ _ _ _ _ _ FB.out.1 FB.out.2.1 FB.out.2.2 HX.out).mono ?_
          rintro en w2 ⟨y, z, u, rfl, f0, f1, f2, hB2⟩
          exact hK _ _ ⟨y, z, u, rfl, f0, f1, f2⟩ trivial (HC.out.trans (hB2.mono HC.out.size)) hB2
        · refine Reg6.Obl.early rfl (by kernel_rfl) ?_
          rintro av wq hC hx hd K hK
          have HC := Lib.hid hC
          clear hC
          have t27 : av.tmps[27]?.getD undef = vv p q t := Reg.slot_val (hd 11 27 (by kernel_rfl) rfl).1
          obtain ⟨y, z, u, g33, f33⟩ := (hd 17 33 (by kernel_rfl) rfl).1
          have t33 := Reg.slot_val g33
          have F33 := Lib.hid f33
          clear g33 f33
          go_simp
          refine (l01Add _ _ _ _ _ _ _ _ _ _ _ _ _ FA.out.1 FA.out.2.1 FA.out.2.2 F33.out.1 F33.out.2.1 F33.out.2.2).mono ?_
          rintro en w2 ⟨y', z', u', rfl, f0, f1, f2, hB2⟩
          exact hK _ _ ⟨y', z', u', rfl, f0, f1, f2⟩ trivial (HC.out.trans (hB2.mono HC.out.size)) hB2
        · refine Reg6.Obl.early rfl (by kernel_rfl) ?_
          rintro av wq hC hx hd K hK
          have HC := Lib.hid hC
          clear hC
          have t18 : av.tmps[18]?.getD undef = .slice (some ⟨g, 0, none⟩) B'.pl B'.pc := Reg.slot_val (hd 2 18 (by kernel_rfl) rfl).1
          have t19 : av.tmps[19]?.getD undef = .int .i64 k := Reg.slot_val (hd 3 19 (by kernel_rfl) rfl).1
          go_simp
          exact hK _ _ (by first | rfl | simp) trivial HC.out (Below.refl _ _)
        · refine Reg6.Obl.store rfl ?_
          rintro av wq hC hx hd K hK
          have HC := Lib.hid hC
          clear hC
          have t35 : av.tmps[35]?.getD undef = .pointer (some ⟨g, k * 3, none⟩) := Reg.slot_val (hd 19 35 (by kernel_rfl) rfl).1
          obtain ⟨y, z, v, g34, f34⟩ := (hd 18 34 (by kernel_rfl) rfl).1
          have t34 := Reg.slot_val g34
          have HP : Hid (∃ wp y' z' v', Below wr.heap.size wr wp ∧ F3 y' z' v' (movC (c.cs.getD k c0) (ys.getD k c0) d) ∧ put3 wq g k y z v = put3 wp g k y' z' v') := Lib.hid ⟨wq, y, z, v, HC.out, f34, rfl⟩
          obtain ⟨p0, q0, r0, ⟨y0, y1, y2⟩, -⟩ := (O1.out.below HC.out).at (k := k) (by rw [mkW_len]; exact hlt)
          have f0 := (O1.out.below HC.out).2.1 (k * 3)
          have f1 := (O1.out.below HC.out).2.1 (k * 3 + 1)
          have f2 := (O1.out.below HC.out).2.1 (k * 3 + 2)
          clear g34 f34
          go_simp
          exact hK _ HP.out
      · rintro f w2 hD hd
        obtain ⟨wp, y, z, v, hB, hF, rfl⟩ := hD
        simp only [Reg.mixL]
        have O2 := Lib.hid ((O1.out.below hB).put (k := k) (by rw [mkW_len]; exact hlt) hF)
        have T2 := Lib.hid ((TK.out.call hB).put3 (k := k) (y := y) (z := z) (v := v) (show w.heap.size ≤ g by have := G.out.1; omega) G.out.2 (show g ≠ w.heap.size by have := G.out.1; omega))
        have E2 := Lib.hid ((EK.out.trans (Agree.of_below hB)).put3 (k := k) (y := y) (z := z) (v := v) (fun hb => hb.1 rfl))
        clear hB hF hd
        go_wp2
        go_roundw
        case rel => exact ⟨k + 1, by omega, by go_num, T2.out, .inr (by rw [← HSN.out]; exact O2.out), E2.out⟩
        case measure => simp [intOf]; omega
    · obtain rfl : k = B.pl := by omega
      have k0 := TK.out.out 0 _ rfl
      have k1 := TK.out.out 1 _ rfl
      have k2 := TK.out.out 2 _ rfl
      have k3 := TK.out.out 3 _ rfl
      have k4 := TK.out.out 4 _ rfl
      have k5 := TK.out.out 5 _ rfl
      have k6 := TK.out.out 6 _ rfl
      have k7 := TK.out.out 7 _ rfl
      have k8 := TK.out.out 8 _ rfl
      have q0 := TK.out.res 0 _ rfl
      have p0 := TK.out.fr 0
      have q1 := TK.out.res 1 _ rfl
      have p1 := TK.out.fr 1
      have q2 := TK.out.res 2 _ rfl
      have p2 := TK.out.fr 2
      have q3 := TK.out.res 3 _ rfl
      have p3 := TK.out.fr 3
      have q4 := TK.out.res 4 _ rfl
      have p4 := TK.out.fr 4
      have q5 := TK.out.res 5 _ rfl
      have p5 := TK.out.fr 5
      have q6 := TK.out.res 6 _ rfl
      have p6 := TK.out.fr 6
      have q7 := TK.out.res 7 _ rfl
      have p7 := TK.out.fr 7
      have q8 := TK.out.res 8 _ rfl
      have p8 := TK.out.fr 8
      obtain ⟨hR, hBB⟩ := TK.out.fin (vs' := B'.l) rfl
      have hE := Agree.setL (S := fun b => b ≠ g ∧ w.heap.size + 1 ≤ b ∧ b < w1.heap.size) (g := w.heap.size) (fun hb => by omega) B'.l _ 0 EK.out
      have hO := OK.out.imp id (fun k => OwnVs.agree (S := fun b => b ≠ w.heap.size) k (show g ≠ w.heap.size by have := G.out.1; omega) (Agree.setL (fun hb => hb rfl) B'.l _ 0 (Agree.refl _ _)))
      have hF := pz_fin K.out.1 K.out.2.1 K.out.2.2 hE hO (by rw [mkW_len, HPL.out])
      have hsz := hE.size
      simp only [setL, Nat.zero_add, Nat.reduceAdd] at hR hBB hF hsz
      have HR := Lib.hid hR
      have HBB := Lib.hid hBB
      have HF := Lib.hid hF
      have HSZ := Lib.hid hsz
      clear hR hBB hE hO hF hsz
      go_wp2
      clear k0 k1 k2 k3 k4 k5 k6 k7 k8 q0 q1 q2 q3 q4 q5 q6 q7 q8 p0 p1 p2 p3 p4 p5 p6 p7 p8
      have m0 := HR.out 0 _ rfl
      have m1 := HR.out 1 _ rfl
      have m2 := HR.out 2 _ rfl
      have m3 := HR.out 3 _ rfl
      have m4 := HR.out 4 _ rfl
      have m5 := HR.out 5 _ rfl
      have m6 := HR.out 6 _ rfl
      have m7 := HR.out 7 _ rfl
      have m8 := HR.out 8 _ rfl
      refine bodyPost_ret (v := B'.v) (by simp [results, Try.results83, go_sem, m0, m1, m2, m3, m4, m5, m6, m7, m8]) rfl ?_
      refine ⟨B', rfl, ?_, HF.out.2.wide (by omega) HSZ.out, HBB.out⟩
      have := HF.out.1
      rw [mkW_full] at this
      exact this
end Go.Proofs.Ytmbekamnogbgaaa

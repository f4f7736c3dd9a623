/-
Texts in one: what StiffTimes stands on, part 25. Conditions: those of each.
-/
import Derived.Test.YtabccmobmppdnaaGreatKStiffTimes24
-- halved
namespace Go.Proofs.YtabccmobmppdnaaGreat
open Go Fk Go.RowKit
set_option linter.unusedVariables false
set_option maxRecDepth 8000
end Go.Proofs.YtabccmobmppdnaaGreat
namespace Go.Proofs.YtabccmobmppdnaaGreat
open Go Fk Go.RowKit
set_option linter.unusedVariables false
set_option maxRecDepth 16000
end Go.Proofs.YtabccmobmppdnaaGreat
namespace Go.Proofs.YtabccmobmppdnaaGreat
open Go Fk Go.RowKit
set_option linter.unusedVariables false
set_option maxRecDepth 8000
theorem owns_apart {w : World} {b1 b2 : Nat} {e1 e2 : TypeId} {s1 s2 n1 n2 c1 c2 : Nat} {a1 a2 : Option Addr} {x1 x2 : List Value} (h1 : w.ownsRow b1 e1 s1 (.slice a1 n1 c1) n1 x1) (h2 : w.ownsRow b2 e2 s2 (.slice a2 n2 c2) n2 x2) (he : e1 ≠ e2) : ∀ P R, a1 = some P → a2 = some R → P.block ≠ R.block := by
 intro P R hP hR hb
 subst hP
 subst hR
 rcases h1.2 with ⟨e, _⟩ | ⟨g, cap, cur, e, _, hh, _⟩
 ·cases e
 rcases h2.2 with ⟨e', _⟩ | ⟨g', cap', cur', e', _, hh', _⟩
 ·cases e'
 cases e
 cases e'
 have hb' : g = g' := hb
 subst hb'
 rw [hh] at hh'
 cases hh'
 exact he rfl
end Go.Proofs.YtabccmobmppdnaaGreat
namespace Go.Proofs.YtabccmobmppdnaaGreat
open Go Fk Go.RowKit
set_option linter.unusedVariables false
set_option maxRecDepth 8000
end Go.Proofs.YtabccmobmppdnaaGreat
namespace Go.Proofs.YtabccmobmppdnaaGreat
open Go Fk Go.RowKit
set_option linter.unusedVariables false
set_option maxRecDepth 8000
set_option maxHeartbeats 4000000 in
theorem l03Is (pb : Nat) (B : Bd) (c : Bc) (w : World) (A : At w pb B.l) (h : IsB w B c) :
  Calls Tryz.prog 99 #[.pointer (some ⟨pb, 0, none⟩)] w fun e w' => e = .returned (.bool (bodyB c)) ∧ ∃ n, w' = w.drewN n := by
 have ui := Tryz.underlying44
 have um := Tryz.underlying40
 have us := Tryz.underlying166
 obtain ⟨lp, lt, ls, lw⟩ := h.lens
 have hpm : B.pl ≤ 9223372036854775807 := by have h1 := h.1.2.1; have h2 := h.1.2.2.1; unfold maxLen at h2; omega
 have hJ := fun n => l02Is pb B.pa B.ta B.pl B.pc B.tl B.tc c.cs c.ts (w.drewN n) (A 0 _ rfl) (A 1 _ rfl) (h.1.drew rfl) (h.2.1.drew rfl)
 have k0 := A 0 _ rfl
 have k1 := A 1 _ rfl
 have k2 := A 2 _ rfl
 have k5 := A 5 _ rfl
 have LS := Lib.hid ls
 have H := Lib.hid h
 have HA := Lib.hid A
 unfold bodyB
 rw [ls, lw, lp]
 clear h A lp lt lw ls
 cases hv : validB c.cs c.ts
 ·simp only [hv] at hJ
  have HJ := Lib.hid hJ
  clear hJ hv
  by_cases h1 : B.sl ≤ 200
  ·have g1 : ¬ (200 : Int) < B.sl := by omega
   by_cases h2 : B.wl = B.pl
   ·have g2 : ((B.wl : Int) == (B.pl : Int)) = true := by simp [h2]
    have g2' : ((B.wl : Int) != (B.pl : Int)) = false := by simp [h2]
    clear h2
    go_enter Tryz.func99, Tryz.ntmps99
    go_wp2_with fail
    go_quiet ((go_at_call 148; exact Calls.quiet_of (HJ.out _)))
    go_wp2
    go_ret
    exact ⟨rfl, _, rfl⟩
   ·have g2 : ((B.wl : Int) == (B.pl : Int)) = false := beq_eq_false_iff_ne.2 (by omega)
    have g2' : ((B.wl : Int) != (B.pl : Int)) = true := by simp; omega
    clear h2
    go_enter Tryz.func99, Tryz.ntmps99
    go_wp2_with fail
    go_quiet ((go_at_call 148; exact Calls.quiet_of (HJ.out _)))
    go_wp2
    go_ret
    exact ⟨rfl, _, rfl⟩
  ·have g1 : (200 : Int) < B.sl := by omega
   go_enter Tryz.func99, Tryz.ntmps99
   go_wp2_with fail
   go_quiet ((go_at_call 148; exact Calls.quiet_of (HJ.out _)))
   go_wp2
   go_ret
   exact ⟨rfl, _, rfl⟩
 ·simp only [hv] at hJ
  have HJ := Lib.hid hJ
  clear hJ hv
  by_cases h1 : B.sl ≤ 200
  ·have g1 : ¬ (200 : Int) < B.sl := by omega
   rw [decide_eq_true h1]
   by_cases h2 : B.wl = B.pl
   ·have g2 : ((B.wl : Int) == (B.pl : Int)) = true := by simp [h2]
    have g2' : ((B.wl : Int) != (B.pl : Int)) = false := by simp [h2]
    rw [decide_eq_true h2]
    clear h2
    go_enter Tryz.func99, Tryz.ntmps99
    go_wp2_with fail
    go_quiet ((go_at_call 148; exact Calls.quiet_of (HJ.out _)))
    go_wp2
    have hm : B.sl ≤ 9223372036854775807 := by omega
    go_loopw [36] (fun i w' => ∃ k : Nat, k ≤ B.sl ∧ i = .int .i64 k ∧ Aside (∀ j, j < k → springB B.pl (c.ss.getD j s0) = true) ∧ ∃ n, w' = w.drewN n) (fun i _ => B.sl - (intOf i).toNat)
    case atStart => exact ⟨0, Nat.zero_le _, rfl, (fun j hj => absurd hj (by omega)), _, rfl⟩
    case round =>
     obtain ⟨k, hk, rfl, hall, n, hw⟩ := hrel
     have c0' : wr.cell? ⟨pb, 0, none⟩ = some (.slice B.pa B.pl B.pc) := by rw [hw]; exact k0
     have c2' : wr.cell? ⟨pb, 2, none⟩ = some (.slice B.sa B.sl B.sc) := by rw [hw]; exact k2
     clear k0 k1 k2 k5
     by_cases hlt : k < B.sl
     ·obtain ⟨b, o, hsa, hcell⟩ := H.out.2.2.1.some (by omega)
      obtain ⟨p, q, d0, d1, d2, d3, fp, fq⟩ := hcell k hlt
      have hJ := fun m => l03Spring b (o + k * 4) (c.ss.getD k s0).1 (c.ss.getD k s0).2.1 p B.pl (c.ss.getD k s0).2.2.1 (c.ss.getD k s0).2.2.2 (wr.drewN m) (by rw [hw]; exact d0) (by rw [hw]; exact d1) (by rw [hw]; exact d2) fp (by omega)
      have hsp : springB B.pl ((c.ss.getD k s0).1, (c.ss.getD k s0).2.1, (c.ss.getD k s0).2.2.1, (c.ss.getD k s0).2.2.2) = springB B.pl (c.ss.getD k s0) := rfl
      rw [hsp] at hJ
      have hk0 : (0 : Int) ≤ (k : Int) := by omega
      have hk1 : (k : Int) < (B.sl : Int) := by omega
      rw [hsa] at c2' 
      have HW := Lib.hid hw
      clear hcell hsp hsa fp fq d0 d1 d2 d3 hw
      cases hb : springB B.pl (c.ss.getD k s0)
      ·have hres : Aside ((true && true && true && c.ss.all (springB B.pl)) = false) := by show (true && true && true && c.ss.all (springB B.pl)) = false; rw [ss_not (by rw [LS.out]; exact hlt) hb]; rfl
       rw [hb] at hJ
       have HJ2 := Lib.hid hJ
       clear hJ hall hb
       go_wp2_with fail
       go_quiet ((go_at_call 149; exact Calls.quiet_of (HJ2.out _)))
       go_wp2
       go_ret
       exact ⟨ret_bool hres.out.symm, drewn_end HW.out⟩
      ·have hall' : Aside (∀ j, j < k + 1 → springB B.pl (c.ss.getD j s0) = true) := by
        intro j hj
        by_cases hjk : j = k
        ·subst hjk; exact hb
        ·exact hall.out j (by omega)
       rw [hb] at hJ
       have HJ2 := Lib.hid hJ
       clear hJ hall hb
       go_wp2_with fail
       go_quiet ((go_at_call 149; exact Calls.quiet_of (HJ2.out _)))
       go_wp2
       go_roundw
       case rel => exact ⟨k + 1, by omega, by go_num, hall', drewn_end HW.out⟩
       case measure => simp [intOf]; omega
     ·have hkl : k = B.sl := by omega
      have hres : Aside ((true && true && true && c.ss.all (springB B.pl)) = true) := by show (true && true && true && c.ss.all (springB B.pl)) = true; rw [ss_all (by rw [LS.out, ← hkl]; exact hall.out)]; rfl
      have g3 : ¬ (k : Int) < (B.sl : Int) := by omega
      have HW := Lib.hid hw
      clear hall hkl hw
      go_wp2
      go_ret
      exact ⟨ret_bool hres.out.symm, n, HW.out⟩
   ·have g2 : ((B.wl : Int) == (B.pl : Int)) = false := beq_eq_false_iff_ne.2 (by omega)
    have g2' : ((B.wl : Int) != (B.pl : Int)) = true := by simp; omega
    rw [decide_eq_false h2]
    clear h2
    go_enter Tryz.func99, Tryz.ntmps99
    go_wp2_with fail
    go_quiet ((go_at_call 148; exact Calls.quiet_of (HJ.out _)))
    go_wp2
    go_ret
    exact ⟨rfl, _, rfl⟩
  ·have g1 : (200 : Int) < B.sl := by omega
   rw [decide_eq_false h1]
   go_enter Tryz.func99, Tryz.ntmps99
   go_wp2_with fail
   go_quiet ((go_at_call 148; exact Calls.quiet_of (HJ.out _)))
   go_wp2
   go_ret
   exact ⟨rfl, _, rfl⟩
end Go.Proofs.YtabccmobmppdnaaGreat

/-
Texts in one: what EnergiesAlong stands on, part 10. Conditions: those of each.
-/
import Derived.Test.YtabccmobmppdnaaGreatKEnergiesAlong9
-- halved
namespace Go.Proofs.YtabccmobmppdnaaGreat
open Go Fk Go.RowKit
set_option linter.unusedVariables false
set_option maxRecDepth 16000
end Go.Proofs.YtabccmobmppdnaaGreat
namespace Go.Proofs.YtabccmobmppdnaaGreat
open Go Fk Go.RowKit
set_option linter.unusedVariables false
set_option maxRecDepth 16000
end Go.Proofs.YtabccmobmppdnaaGreat
namespace Go.Proofs.YtabccmobmppdnaaGreat
open Go Fk Go.RowKit
set_option linter.unusedVariables false
set_option maxRecDepth 8000
def heldB (c : Bc) (L : List Int) : Bool := bodyB c && riseB c.cs.length L
theorem bodyB_pl {B : Bd} {c : Bc} {w : World} (h : IsB w B c) (hb : bodyB c = true) : B.pl ≤ 64 := by
 have hl := h.1.1
 unfold bodyB validB at hb
 simp only [Bool.and_eq_true] at hb
 have := of_decide_eq_true hb.1.1.1.1.1
 omega
set_option maxHeartbeats 1000000 in
theorem impl_IsHeld (B : Bd) (c : Bc) (a : Option Addr) (len cap : Nat) (L : List Int) (w : World) (h : IsB w B c) (hL : IsIs w a len cap L) :
  Calls Tryz.prog 159 #[B.v, .slice a len cap] w fun e w' => e = .returned (.bool (heldB c L)) ∧ Below w.heap.size w w' := by
 have ui := Tryz.underlying44
 have uim := Tryz.underlying40
 have A0 : Hid (At (w.alloc (BoxB B 44)) w.heap.size B.l) := Lib.hid At.new
 have B0 : Hid (Below w.heap.size w (w.alloc (BoxB B 44))) := Lib.hid ((Below.refl _ _).alloc (Nat.le_refl _) _)
 have HL := Lib.hid (hL.below B0.out)
 have hpl := h.1.1
 have JV := Lib.hid (impl_ValidBody B c _ (h.below B0.out))
 unfold heldB
 rw [hpl]
 cases hv : bodyB c
 ·rw [hv] at JV
  clear hL h hv
  go_enter Tryz.func159, Tryz.ntmps159
  go_wp2_with fail
  change Calls _ _ _ (w.alloc (BoxB B 44)) _
  generalize (w.alloc (BoxB B 44)) = W at *
  refine JV.out.mono ?_
  rintro e w1 ⟨rfl, hB1⟩
  have B1 := Lib.hid (B0.out.trans (hB1.mono B0.out.size))
  clear hB1
  go_wp2
  go_ret
  exact ⟨rfl, B1.out⟩
 ·have h64 := bodyB_pl h hv
  rw [hv] at JV
  clear hL h hv
  go_enter Tryz.func159, Tryz.ntmps159
  go_wp2_with fail
  change Calls _ _ _ (w.alloc (BoxB B 44)) _
  generalize (w.alloc (BoxB B 44)) = W at *
  refine JV.out.mono ?_
  rintro e w1 ⟨rfl, hB1⟩
  have k0 := A0.out.below hB1 0 _ rfl
  have k1 := A0.out.below hB1 1 _ rfl
  have HL1 := Lib.hid (HL.out.below hB1)
  have B1 := Lib.hid (B0.out.trans (hB1.mono B0.out.size))
  clear hB1
  go_wp2_with fail
  refine (impl_isIndexSet _ _ _ _ _ _ HL1.out (by omega)).mono ?_
  rintro e w2 ⟨rfl, hw2⟩
  rw [hw2]
  clear hw2 w2
  go_wp2
  go_ret
  exact ⟨rfl, B1.out⟩
theorem l05Held (pb : Nat) (B : Bd) (c : Bc) (a : Option Addr) (len cap : Nat) (L : List Int) (w : World) (k0 : w.cell? ⟨pb, 0, none⟩ = some (.slice B.pa B.pl B.pc)) (hm : B.pl ≤ 9223372036854775807) (hL : IsIs w a len cap L) :
  Calls Tryz.prog 116 #[.pointer (some ⟨pb, 0, none⟩), .slice a len cap] w fun e w' => e = .returned (.bool (riseB B.pl L)) ∧ ∃ m, w' = w.drewN m := by
 have ui := Tryz.underlying44
 have uim := Tryz.underlying40
 have htw : IntKind.i64.wrap ((B.pl : Int) - 1) = (B.pl : Int) - 1 := IntWalk.i64_in _ (by omega)
 have J := Lib.hid (fun m => l00Rises a len cap B.pl L (w.drewN m) hL.drew)
 clear hL
 go_enter Tryz.func116, Tryz.ntmps116
 go_wp2_with fail
 refine (J.out 0).mono ?_
 rintro e w1 ⟨rfl, m, hw1⟩
 rw [hw1]
 clear hw1 w1
 go_wp2
 go_ret
 exact ⟨rfl, ⟨_, rfl⟩⟩
end Go.Proofs.YtabccmobmppdnaaGreat
namespace Go.Proofs.YtabccmobmppdnaaGreat
open Go Fk Go.RowKit
set_option linter.unusedVariables false
set_option maxRecDepth 16000
abbrev HbL (B : Bd) (ha la : Option Addr) (hl hc ln lc : Nat) : List Value := [.slice B.pa B.pl B.pc, .slice B.ta B.tl B.tc, .slice B.sa B.sl B.sc, .float .f32 B.film, .float .f32 B.bend, .slice B.wa B.wl B.wc, .float .f32 B.x, .float .f32 B.y, .float .f32 B.z, .slice ha hl hc, .slice la ln lc]
abbrev HbV (B : Bd) (ha la : Option Addr) (hl hc ln lc : Nat) : Value := .agg #[.slice B.pa B.pl B.pc, .slice B.ta B.tl B.tc, .slice B.sa B.sl B.sc, .float .f32 B.film, .float .f32 B.bend, .slice B.wa B.wl B.wc, .float .f32 B.x, .float .f32 B.y, .float .f32 B.z, .slice ha hl hc, .slice la ln lc]
end Go.Proofs.YtabccmobmppdnaaGreat
namespace Go.Proofs.YtabccmobmppdnaaGreat
open Go Fk Go.RowKit
set_option linter.unusedVariables false
set_option maxRecDepth 16000
end Go.Proofs.YtabccmobmppdnaaGreat

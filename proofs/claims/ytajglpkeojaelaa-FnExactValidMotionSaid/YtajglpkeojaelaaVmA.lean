
/-
Whether a motion is valid: the program and its model. Conditions: none beyond that it lies in memory.
-/
import Derived.Test.YtajglpkeojaelaaBoG
import Derived.Test.YtajglpkeojaelaaMoB
namespace Go.Proofs.Ytajglpkeojaelaa
open Go Fk Go.RowKit
set_option linter.unusedVariables false
set_option maxRecDepth 8000

def motB (c : Bc) (n : Nat) : Bool := bodyB c && decide (n = c.cs.length)
theorem at_pre {w : World} {b : Nat} {B : Bd} {va : Option Addr} {vl vc : Nat} (h : At w b (ml B va vl vc)) : At w b B.l := fun i v hi => h i v (by
  have hlt : i < 9 := by have := (List.getElem?_eq_some_iff.1 hi).1; simpa using this
  show (B.l ++ [Value.slice va vl vc])[i]? = some v
  rw [List.getElem?_append_left (by simpa using hlt)]; exact hi)
set_option maxHeartbeats 1000000 in
theorem impl_ValidMotion (B : Bd) (c : Bc) (va : Option Addr) (vl vc : Nat) (vs : List C3) (w : World) (h : IsB w B c) (hv : IsVs w va vl vc vs) :
    Calls Try.prog 31 #[mv B va vl vc] w fun e w' => e = .returned (.bool (motB c vl)) ∧ Below w.heap.size w w' := by
  have ui := Try.underlying61
  have uib := Try.underlying42
  have uim := Try.underlying38
  have A0 : Hid (At (w.alloc (BoxM B va vl vc 61)) w.heap.size (ml B va vl vc)) := Lib.hid At.new
  have B0 : Hid (Below w.heap.size w (w.alloc (BoxM B va vl vc 61))) := Lib.hid ((Below.refl _ _).alloc (Nat.le_refl _) _)
  have hpl := h.1.1
  have JV := Lib.hid (impl_ValidBody B c _ (h.below B0.out))
  unfold motB
  rw [hpl]
  clear hv
  cases hv : bodyB c
  · rw [hv] at JV
    clear h hv
    go_enter Try.func31, Try.ntmps31
    go_wp2_with fail
    change Calls _ _ _ (w.alloc (BoxM B va vl vc 61)) _
    generalize (w.alloc (BoxM B va vl vc 61)) = W at *
    refine JV.out.mono ?_
    rintro e w1 ⟨rfl, hB1⟩
    have B1 := Lib.hid (B0.out.trans (hB1.mono B0.out.size))
    clear hB1
    go_wp2
    go_ret
    exact ⟨rfl, B1.out⟩
  · rw [hv] at JV
    clear h hv
    by_cases hn : vl = B.pl
    · subst hn
      go_enter Try.func31, Try.ntmps31
      go_wp2_with fail
      change Calls _ _ _ (w.alloc (BoxM B va B.pl vc 61)) _
      generalize (w.alloc (BoxM B va B.pl vc 61)) = W at *
      refine JV.out.mono ?_
      rintro e w1 ⟨rfl, hB1⟩
      have k0 := A0.out.below hB1 0 _ rfl
      have k1 := A0.out.below hB1 1 _ rfl
      have k9 := A0.out.below hB1 9 _ rfl
      have B1 := Lib.hid (B0.out.trans (hB1.mono B0.out.size))
      clear hB1
      go_wp2
      go_ret
      exact ⟨by simp, B1.out⟩
    · have hne : ¬ (vl : Int) = B.pl := by omega
      have hd : decide (vl = B.pl) = false := decide_eq_false hn
      rw [hd]
      clear hn hd
      go_enter Try.func31, Try.ntmps31
      go_wp2_with fail
      change Calls _ _ _ (w.alloc (BoxM B va vl vc 61)) _
      generalize (w.alloc (BoxM B va vl vc 61)) = W at *
      refine JV.out.mono ?_
      rintro e w1 ⟨rfl, hB1⟩
      have k0 := A0.out.below hB1 0 _ rfl
      have k1 := A0.out.below hB1 1 _ rfl
      have k9 := A0.out.below hB1 9 _ rfl
      have B1 := Lib.hid (B0.out.trans (hB1.mono B0.out.size))
      clear hB1
      go_wp2
      go_ret
      exact ⟨by first | rfl | simp [hne], B1.out⟩
set_option maxHeartbeats 1000000 in
theorem l05Is (pb : Nat) (B : Bd) (c : Bc) (va : Option Addr) (vl vc : Nat) (w : World) (A : At w pb (ml B va vl vc)) (h : IsB w B c) :
    Calls Try.prog 78 #[.pointer (some ⟨pb, 0, none⟩)] w fun e w' => e = .returned (.bool (motB c vl)) ∧ Below w.heap.size w w' := by
  have ui := Try.underlying61
  have uib := Try.underlying42
  have uim := Try.underlying38
  have hpl := h.1.1
  have JV := Lib.hid (fun m => l03Is pb B c (w.drewN m) (at_pre A) h)
  have k0 := A 0 _ rfl
  have k1 := A 1 _ rfl
  have k9 := A 9 _ rfl
  unfold motB
  rw [hpl]
  cases hv : bodyB c
  · rw [hv] at JV
    clear h hv A
    go_enter Try.func78, Try.ntmps78
    go_wp2_with fail
    go_quiet ((go_at_call 67; exact Calls.quiet_of (JV.out _)))
    go_wp2
    go_ret
    exact ⟨rfl, below_drewN (Below.refl _ _) _⟩
  · rw [hv] at JV
    clear h hv A
    by_cases hn : vl = B.pl
    · subst hn
      go_enter Try.func78, Try.ntmps78
      go_wp2_with fail
      go_quiet ((go_at_call 67; exact Calls.quiet_of (JV.out _)))
      go_wp2
      go_ret
      exact ⟨by simp, below_drewN (Below.refl _ _) _⟩
    · have hne : ¬ (vl : Int) = B.pl := by omega
      have hne' : ((vl : Int) == (B.pl : Int)) = false := beq_eq_false_iff_ne.2 hne
      have hd : decide (vl = B.pl) = false := decide_eq_false hn
      rw [hd]
      clear hn hd
      go_enter Try.func78, Try.ntmps78
      go_wp2_with fail
      go_quiet ((go_at_call 67; exact Calls.quiet_of (JV.out _)))
      go_wp2
      go_ret
      exact ⟨by first | rfl | simp [hne], below_drewN (Below.refl _ _) _⟩
theorem spec_ValidMotion (B : Bd) (c : Bc) (va : Option Addr) (vl vc : Nat) (w : World) (h : IsB w B c) :
    Calls Try.prog 29 #[mv B va vl vc] w fun e w' => e = .returned (.bool (motB c vl)) ∧ Below w.heap.size w w' := by
  have ui := Try.underlying61
  have A0 : Hid (At (w.alloc (BoxM B va vl vc 61)) w.heap.size (ml B va vl vc)) := Lib.hid At.new
  have B0 : Hid (Below w.heap.size w (w.alloc (BoxM B va vl vc 61))) := Lib.hid ((Below.refl _ _).alloc (Nat.le_refl _) _)
  have J := Lib.hid (l05Is w.heap.size B c va vl vc _ A0.out (h.below B0.out))
  clear h
  go_enter Try.func29, Try.ntmps29
  go_wp2_with fail
  change Calls _ _ _ (w.alloc (BoxM B va vl vc 61)) _
  generalize (w.alloc (BoxM B va vl vc 61)) = W at *
  refine J.out.mono ?_
  rintro e w1 ⟨rfl, hB1⟩
  have B1 := Lib.hid (B0.out.trans (hB1.mono B0.out.size))
  clear hB1
  go_wp2
  go_ret
  exact ⟨rfl, B1.out⟩
end Go.Proofs.Ytajglpkeojaelaa

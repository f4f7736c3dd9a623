
/-
The greatest length of a list of vectors: what the program and its model return. Conditions: none.
-/
import Derived.Test.YtcdpehkpifiliaaMwD
import Derived.Test.YtcdpehkpifiliaaBet
import Derived.Test.YtcdpehkpifiliaaNn
import Derived.Test.YtcdpehkpifiliaaTo
namespace Go.Proofs.Ytcdpehkpifiliaa
open Go Fk Go.RowKit
set_option linter.unusedVariables false
set_option maxRecDepth 8000

def longC (c : C3) : Option Nat := rootC (fop .add .f32 (fop .add .f32 (fop .mul .f32 c.1 c.1) (fop .mul .f32 c.2.1 c.2.1)) (fop .mul .f32 c.2.2 c.2.2))
theorem Pos_longC (c : C3) : Pos .f32 (longC c) := Pos_root (Pos_add (Pos_add (Pos_square _) (Pos_square _)) (Pos_square _)) Num_fop
def lonF (m : Option Nat) (cs : List C3) : Option Nat := cs.foldl (fun m v => mxC .f32 m (longC v)) m
abbrev lonC (cs : List C3) : Option Nat := lonF (some 0) cs
theorem Pos_zero : Pos .f32 (some 0) := by intro r h; cases h; decide
theorem Pos_lonF (cs : List C3) : ∀ m, Pos .f32 m → Pos .f32 (lonF m cs) := by
  induction cs with
  | nil => exact fun m h => h
  | cons c cs ih => exact fun m h => ih _ (Pos_mx h (Pos_longC c))
theorem lonC_snoc (cs : List C3) (k : Nat) (hk : k < cs.length) : lonC (cs.take (k + 1)) = mxC .f32 (lonC (cs.take k)) (longC (cs.getD k c0)) := by
  rw [List.take_succ_eq_append_getElem hk]
  unfold lonC lonF
  rw [List.foldl_append]
  simp [List.getD, hk]
theorem lonC_stop (cs : List C3) (k : Nat) (h : lonC (cs.take k) = none) : lonC cs = none := by
  have e : cs = cs.take k ++ cs.drop k := (List.take_append_drop k cs).symm
  rw [e]
  unfold lonC lonF at h ⊢
  rw [List.foldl_append, h]
  exact foldl_none _ _
def lonB (n : Nat) (cs : List C3) : Option Nat := if n ≤ 256 then lonC cs else some 0
theorem FV_00 : FV .f32 0 (some 0) := ⟨by decide, by decide⟩
theorem lon_step {x o : Nat} {m v : Option Nat} (ho : FV .f32 o m) (hx : FV .f32 x v) (hm : m = some o) :
    ((FloatKind.f32.format.order x o == some .gt) = true ∧ FV .f32 x (mxC .f32 m v) ∧ mxC .f32 m v = some x ∧ (FloatKind.f32.format.order x x != some .eq) = false) ∨
    ((FloatKind.f32.format.order x o == some .gt) = false ∧ (FloatKind.f32.format.order x x != some .eq) = true ∧ FV .f32 x none ∧ mxC .f32 m v = none) ∨
    ((FloatKind.f32.format.order x o == some .gt) = false ∧ (FloatKind.f32.format.order x x != some .eq) = false ∧ FV .f32 o (mxC .f32 m v) ∧ mxC .f32 m v = some o ∧ (FloatKind.f32.format.order o o != some .eq) = false) := by
  subst hm
  have oo : (FloatKind.f32.format.order o o != some .eq) = false := by rw [order_self ho.notnan]; rfl
  rcases ford_both ho hx with ⟨e1, e2, h⟩ | ⟨c, e1, e2, _, rfl⟩
  · rcases h with h | rfl
    · cases h
    · have h1 : FloatKind.f32.format.order x o = none := order_nan (.inl hx.nan)
      have h2 : FloatKind.f32.format.order x x = none := order_nan (.inl hx.nan)
      refine .inr (.inl ⟨by rw [h1]; rfl, by rw [h2]; rfl, hx, rfl⟩)
  · have xx : (FloatKind.f32.format.order x x != some .eq) = false := by rw [order_self hx.notnan]; rfl
    have h1 : FloatKind.f32.format.order x o = some c.swap := e2
    cases c with
    | lt => exact .inl ⟨by rw [h1]; rfl, by unfold mxC; rw [e1]; exact hx, by unfold mxC; rw [e1], xx⟩
    | eq => exact .inr (.inr ⟨by rw [h1]; rfl, xx, by unfold mxC; rw [e1]; exact ho, by unfold mxC; rw [e1], oo⟩)
    | gt => exact .inr (.inr ⟨by rw [h1]; rfl, xx, by unfold mxC; rw [e1]; exact ho, by unfold mxC; rw [e1], oo⟩)

set_option maxHeartbeats 1000000 in
theorem impl_LongestOf (a : Option Addr) (len cap : Nat) (cs : List C3) (w : World) (h : IsVs w a len cap cs) :
    Calls Try.prog 22 #[.slice a len cap] w fun e w' => ∃ r, e = .returned (.tuple #[.float .f32 r, .bool (decide (len ≤ 256))]) ∧ FV .f32 r (lonB len cs) ∧ Below w.heap.size w w' := by
  have uv := Try.underlying26
  have u := Try.underlying24
  have hm : len ≤ 9223372036854775807 := by have h1 := h.2.1; have h2 := h.2.2.1; unfold maxLen at h2; omega
  have hzl := h.1
  have H := Lib.hid h
  have HZ := Lib.hid hzl
  clear h hzl
  by_cases hl : len ≤ 256
  · have HL := Lib.hid hl
    go_enter Try.func22, Try.ntmps22
    go_wp2
    go_loopw [4, 12] (fun m i w' => ∃ k : Nat, k ≤ len ∧ i = .int .i64 k ∧ (∃ r, m = .float .f32 r ∧ FV .f32 r (lonC (cs.take k))) ∧ Aside (Below w.heap.size w w')) (fun _ i _ => len - (intOf i).toNat)
    case atStart => exact ⟨0, Nat.zero_le _, rfl, ⟨0, rfl, FV_00⟩, Below.refl _ _⟩
    case round =>
      obtain ⟨k, hk, rfl, ⟨m, rfl, hF⟩, hA⟩ := hrel
      have hB := hA.out
      clear hA
      by_cases hlt : k < len
      · obtain ⟨b, o, rfl, hcell⟩ := (H.out.below hB).some (by omega)
        obtain ⟨p, q, r, k0, k1, k2, f0, f1, f2⟩ := hcell k hlt
        have hsn := lonC_snoc cs k (by rw [HZ.out]; exact hlt)
        have HP := Lib.hid (Pos_lonF (cs.take k) (some 0) Pos_zero)
        have HSN := Lib.hid hsn
        have hk0 : (0 : Int) ≤ (k : Int) := by omega
        have hk1 : (k : Int) < (len : Int) := by omega
        have HB := Lib.hid hB
        have HF := Lib.hid hF
        clear hcell hB hF hsn
        go_wp2_with fail
        refine (impl_LongOf _ _ _ _ _ _ _ f0 f1 f2).mono ?_
        rintro e w1 ⟨g, rfl, fg, hB1⟩
        have HB2 := Lib.hid ((below_new HB.out (Nat.le_refl _)).trans (hB1.mono (below_new HB.out (Nat.le_refl _)).size))
        have HG : RowKit.Hid (∀ w2, FV .f32 (mxR .f32 m g w2) (lonC (cs.take (k + 1)))) := Lib.hid (fun w2 => by rw [HSN.out]; exact FV_mx HF.out fg HP.out)
        clear hB1 k0 k1 k2
        go_wp2
        go_roundw
        case rel => exact ⟨k + 1, by omega, by go_num, ⟨_, rfl, HG.out _⟩, below_drewN HB2.out _⟩
        case measure => simp [intOf]; omega
      · obtain rfl : k = len := by omega
        have hF' : FV .f32 m (lonB k cs) := by unfold lonB; rw [if_pos HL.out]; rwa [List.take_of_length_le (by rw [HZ.out]; omega)] at hF
        have HB := Lib.hid hB
        have HF := Lib.hid hF'
        clear hB hF hF'
        go_wp2
        go_ret2
        exact ⟨m, by rw [decide_eq_true HL.out]; rfl, HF.out, HB.out⟩
  · have HL := Lib.hid hl
    go_enter Try.func22, Try.ntmps22
    go_wp2
    go_ret2
    exact ⟨0, by rw [decide_eq_false HL.out]; rfl, by unfold lonB; rw [if_neg HL.out]; exact FV_00, Below.refl _ _⟩
set_option maxHeartbeats 1000000 in
theorem l03Longest (a : Option Addr) (len cap : Nat) (cs : List C3) (w : World) (h : IsVs w a len cap cs) :
    Calls Try.prog 61 #[.slice a len cap] w fun e w' => ∃ r, e = .returned (.float .f32 r) ∧ FV .f32 r (lonC cs) ∧ Below w.heap.size w w' := by
  have uv := Try.underlying26
  have u := Try.underlying24
  have hm : len ≤ 9223372036854775807 := by have h1 := h.2.1; have h2 := h.2.2.1; unfold maxLen at h2; omega
  have hzl := h.1
  have H := Lib.hid h
  have HZ := Lib.hid hzl
  clear h hzl
  go_enter Try.func61, Try.ntmps61
  go_wp2
  go_loopw [3, 8] (fun m i w' => ∃ k : Nat, k ≤ len ∧ i = .int .i64 k ∧ (∃ r, m = .float .f32 r ∧ FV .f32 r (lonC (cs.take k)) ∧ lonC (cs.take k) = some r) ∧ Aside (Below w.heap.size w w')) (fun _ i _ => len - (intOf i).toNat)
  case atStart => exact ⟨0, Nat.zero_le _, rfl, ⟨0, rfl, FV_00, rfl⟩, Below.refl _ _⟩
  case round =>
    obtain ⟨k, hk, rfl, ⟨m, rfl, hF, hN⟩, hA⟩ := hrel
    have hB := hA.out
    clear hA
    by_cases hlt : k < len
    · obtain ⟨b, o, rfl, hcell⟩ := (H.out.below hB).some (by omega)
      obtain ⟨p, q, r, k0, k1, k2, f0, f1, f2⟩ := hcell k hlt
      have HSN := Lib.hid (lonC_snoc cs k (by rw [HZ.out]; exact hlt))
      have hk0 : (0 : Int) ≤ (k : Int) := by omega
      have hk1 : (k : Int) < (len : Int) := by omega
      have HB := Lib.hid hB
      have HF := Lib.hid (And.intro hF hN)
      clear hcell hB hF hN
      go_wp2_with fail
      refine (l01Long _ _ _ _ _ _ _ f0 f1 f2).mono ?_
      rintro e w1 ⟨g, rfl, fg, hB1⟩
      have HB2 := Lib.hid (HB.out.trans (hB1.mono HB.out.size))
      clear hB1 k0 k1 k2
      have hst := lon_step HF.out.1 fg HF.out.2
      rw [show rootC (fop .add .f32 (fop .add .f32 (fop .mul .f32 (cs.getD k c0).1 (cs.getD k c0).1) (fop .mul .f32 (cs.getD k c0).2.1 (cs.getD k c0).2.1)) (fop .mul .f32 (cs.getD k c0).2.2 (cs.getD k c0).2.2)) = longC (cs.getD k c0) from rfl, ← HSN.out] at hst
      rcases hst with ⟨c1, hf, hs, c2⟩ | ⟨c1, c2, hf, hs⟩ | ⟨c1, c2, hf, hs, c3⟩
      · have HS := Lib.hid (And.intro hf hs)
        clear hf hs
        go_wp2
        go_roundw
        case rel => exact ⟨k + 1, by omega, by go_num, ⟨g, rfl, HS.out.1, HS.out.2⟩, HB2.out⟩
        case measure => simp [intOf]; omega
      · have HS := Lib.hid (And.intro hf (lonC_stop cs (k + 1) hs))
        clear hf hs
        go_wp2
        go_ret
        exact ⟨g, rfl, by rw [HS.out.2]; exact HS.out.1, HB2.out⟩
      · have HS := Lib.hid (And.intro hf hs)
        clear hf hs
        go_wp2
        go_roundw
        case rel => exact ⟨k + 1, by omega, by go_num, ⟨m, rfl, HS.out.1, HS.out.2⟩, HB2.out⟩
        case measure => simp [intOf]; omega
    · obtain rfl : k = len := by omega
      have hF' : FV .f32 m (lonC cs) := by rwa [List.take_of_length_le (by rw [HZ.out]; omega)] at hF
      have HB := Lib.hid hB
      have HF := Lib.hid hF'
      clear hB hF hF' hN
      go_wp2
      go_ret
      exact ⟨m, rfl, HF.out, HB.out⟩
theorem spec_LongestOf (a : Option Addr) (len cap : Nat) (cs : List C3) (w : World) (h : IsVs w a len cap cs) :
    Calls Try.prog 21 #[.slice a len cap] w fun e w' => ∃ r, e = .returned (.tuple #[.float .f32 r, .bool (decide (len ≤ 256))]) ∧ FV .f32 r (lonB len cs) ∧ Below w.heap.size w w' := by
  have u := Try.underlying24
  have hm : len ≤ 9223372036854775807 := by have h1 := h.2.1; have h2 := h.2.2.1; unfold maxLen at h2; omega
  have H := Lib.hid h
  clear h
  by_cases hl : len ≤ 256
  · have HL := Lib.hid hl
    go_enter Try.func21, Try.ntmps21
    go_wp2_with (go_at_call 61; refine (l03Longest _ _ _ _ _ H.out).mono ?_; rintro e w1 ⟨r, rfl, hr, hB⟩; have HR := Lib.hid (And.intro hr hB); clear hr hB)
    go_ret2
    exact ⟨r, by rw [decide_eq_true HL.out]; rfl, by unfold lonB; rw [if_pos HL.out]; exact HR.out.1, HR.out.2⟩
  · have HL := Lib.hid hl
    go_enter Try.func21, Try.ntmps21
    go_wp2
    go_ret2
    exact ⟨0, by rw [decide_eq_false HL.out]; rfl, by unfold lonB; rw [if_neg HL.out]; exact FV_00, Below.refl _ _⟩
end Go.Proofs.Ytcdpehkpifiliaa

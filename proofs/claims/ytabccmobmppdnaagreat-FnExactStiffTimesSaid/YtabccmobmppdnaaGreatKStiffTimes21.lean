/-
Texts in one: what StiffTimes stands on, part 21. Conditions: those of each.
-/
import Derived.Test.YtabccmobmppdnaaGreatKStiffTimes20
import Derived.Lib.SliceRun
import Derived.Handy
import Derived.Lib.AppendZeros
-- halved
namespace Go.Proofs.YtabccmobmppdnaaGreat
open Go Fk Go.RowKit
set_option linter.unusedVariables false
set_option maxRecDepth 8000
end Go.Proofs.YtabccmobmppdnaaGreat
namespace Go.Proofs.YtabccmobmppdnaaGreat
open Go Fk Go.RowKit
end Go.Proofs.YtabccmobmppdnaaGreat
namespace Go.Proofs.YtabccmobmppdnaaGreat
open Go Fk Go.RowKit
set_option linter.unusedVariables false
set_option maxRecDepth 16000
def RV (base : Nat) (w : World) (v : Value) (X : List C3) : Prop := ∃ a cap, v = .slice a X.length cap ∧ IsVs w a X.length cap X ∧ Lst base w.heap.size w a (X.length * 3)
theorem RV.nil (base : Nat) (w : World) : RV base w (.slice none 0 0) [] :=
 ⟨none, 0, rfl, ⟨rfl, Nat.le_refl _, by unfold maxLen; omega, fun _ => ⟨rfl, rfl⟩, fun x hx => by cases hx⟩, .inl ⟨rfl, rfl⟩⟩
theorem RV.block {base g cap : Nat} {w : World} {X : List C3} (hg : base ≤ g) (h1 : X.length ≤ cap) (h2 : cap ≤ maxLen) (h : OwnVs w g X) : RV base w (.slice (some ⟨g, 0, none⟩) X.length cap) X := by
 refine ⟨_, cap, rfl, ⟨rfl, h1, h2, by simp, fun x hx i hi => ?_⟩, .inr ⟨g, rfl, hg, h.2.2, h.2.2, fun j hj => ⟨?_, by rw [Nat.zero_add]; exact h.2.1 j⟩⟩⟩
 ·cases hx
  obtain ⟨p, q, r, ⟨k0, k1, k2⟩, f⟩ := h.1.2 i hi
  exact ⟨p, q, r, by rw [addr_add', Nat.zero_add]; exact k0, by rw [addr_add', Nat.zero_add]; exact k1, by rw [addr_add', Nat.zero_add]; exact k2, f⟩
 ·obtain ⟨p, q, r, ⟨k0, k1, k2⟩, f⟩ := h.1.2 (j / 3) (by omega)
  rw [Nat.zero_add]
  have : j = j / 3 * 3 ∨ j = j / 3 * 3 + 1 ∨ j = j / 3 * 3 + 2 := by omega
  rcases this with e | e | e
  ·exact ⟨_, by rw [e]; exact k0⟩
  ·exact ⟨_, by rw [e]; exact k1⟩
  ·exact ⟨_, by rw [e]; exact k2⟩
theorem own_block {w : World} {base n : Nat} {v : Value} {xs : List Value} {cs : List C3} (h : w.ownsRow base 42 3 v n xs) (hp : PV n xs cs) (hn : cs.length = n) :
  (v = .slice none 0 0 ∧ n = 0) ∨ ∃ g cap, v = .slice (some ⟨g, 0, none⟩) n cap ∧ base ≤ g ∧ n ≤ cap ∧ cap ≤ maxLen ∧ OwnVs w g cs := by
 have h' := h
 obtain ⟨h1, h2⟩ := h
 rcases h2 with ⟨rfl, hz⟩ | ⟨g, cap, cur, rfl, hb, hh, hc1, hc2, hs, ht⟩
 ·exact .inl ⟨rfl, hz⟩
 ·refine .inr ⟨g, cap, rfl, hb, hc1, hc2, ⟨by omega, fun i hi => ?_⟩, fun j => h'.frozenAt j, (h'.lt g rfl).2⟩
  obtain ⟨p, q, r, e0, e1, e2, f⟩ := hp i (by omega)
  exact ⟨p, q, r, ⟨by rw [h'.cellAt _ (by omega)]; exact e0, by rw [h'.cellAt _ (by omega)]; exact e1, by rw [h'.cellAt _ (by omega)]; exact e2⟩, f⟩
end Go.Proofs.YtabccmobmppdnaaGreat
namespace Go.Proofs.YtabccmobmppdnaaGreat
open Go Fk Go.RowKit
set_option linter.unusedVariables false
set_option maxRecDepth 16000
theorem clone_vecs (a : Option Addr) (n c : Nat) (cs : List C3) (w : World) (h : IsVs w a n c cs) (hn : n ≤ 1048576) :
  Calls Tryz.prog 107 #[.slice a n c] w fun e w' => (∃ v xs, e = .returned v ∧ w'.ownsRow w.heap.size 42 3 v n xs ∧ PV n xs cs) ∧ Below w.heap.size w w' := by
 obtain ⟨i0, hi, hz0, hz1, hz2⟩ := info_parts infoV
 obtain ⟨xs, x1, x2, x3, x4⟩ := vs_cells h
 have h0 := h.2.2.2.1
 have X2 := Lib.hid x2
 have X3 := Lib.hid x3
 have X4 := Lib.hid x4
 have X1 := Lib.hid x1
 clear x1 x2 x3 x4 h
 have q : ∀ (w : World) (a : Option Addr) (n c : Nat), (binOp .eql 36 (.slice a n c) (.slice none 0 0)).run Tryz.prog w = .ok (.bool a.isNone) w := fun w a n c => Lib.run_eql_slice_nil w _ _ a n c 0 0 Tryz.underlying36
 cases a with
 | none =>
  obtain ⟨rfl, rfl⟩ := h0 rfl
  go_enter Tryz.func107, Tryz.ntmps107
  go_wp2
  refine bodyPost_ret (v := .slice none 0 0) (by simp [results, Tryz.results107, go_sem]) rfl ?_
  exact ⟨⟨_, rfl, [], World.ownsRow_nil _ _ _ _, fun j hj => absurd hj (by omega)⟩, Below.refl _ _⟩
 | some x =>
  have HST := Lib.hid (World.ownsRow_lit (base := w.heap.size) (e := 42) (size := 3) w #[] 0 (Nat.le_refl _) (by decide) rfl)
  go_enter Tryz.func107, Tryz.ntmps107
  go_wp2_with (at_builtin; refine wpList_append_opt _ rfl _ _ 36 rfl w.heap.size 42 i0 (.agg #[.float .f32 0, .float .f32 0, .float .f32 0]) 3 12 Tryz.underlying36 hi hz0 hz1 hz2 rfl (by decide) _ 0 [] rfl HST.out (some x) n c xs rfl (fun h => by cases h) X1.out ?c2 ?c3 ?c4 ?c5 ?c6 ?_)
  case c2 =>
   intro j u hu
   have := X2.out x rfl j u hu
   rw [World.cell?_alloc_lt (h := World.block_lt_of_cell? _ _ this)]
   exact this
  case c3 => exact X3.out
  case c4 => unfold maxLen; omega
  case c5 => omega
  ·intro v w1 hown hgrow
   have hown' : w1.ownsRow w.heap.size 42 3 v n xs := by simpa using hown
   have hB1 : Below w.heap.size w w1 := ((Below.refl _ _).alloc (Nat.le_refl _) _).grown hgrow (by simp) (fun k hk => by simp [Value.ownBlock] at hk; omega)
   have HO := Lib.hid hown'
   have HB := Lib.hid hB1
   clear hown hgrow hown' hB1
   go_wp2
   refine bodyPost_ret (v := v) (by simp [results, Tryz.results107, go_sem]) rfl ?_
   exact ⟨⟨v, xs, rfl, HO.out, X4.out⟩, HB.out⟩
end Go.Proofs.YtabccmobmppdnaaGreat
namespace Go.Proofs.YtabccmobmppdnaaGreat
open Go Fk Go.RowKit
set_option linter.unusedVariables false
set_option maxRecDepth 16000
end Go.Proofs.YtabccmobmppdnaaGreat

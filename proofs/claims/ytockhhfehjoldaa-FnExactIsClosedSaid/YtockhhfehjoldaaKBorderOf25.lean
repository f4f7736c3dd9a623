/-
Texts in one: what BorderOf stands on, part 25. Conditions: those of each.
-/
import Derived.Test.YtockhhfehjoldaaKBorderOf24
import Derived.Handy

/-
What a hold leaves of a force: the program and the model. Conditions: none beyond that the words fit.
-/
namespace Go.Proofs.Ytockhhfehjoldaa
open Go Fk Go.RowKit
set_option linter.unusedVariables false
set_option maxRecDepth 8000

def forceC (c : HC) (F : C3) : C3 := bif holdB c then leaveC c F else (some 0, some 0, some 0)
end Go.Proofs.Ytockhhfehjoldaa


/-
What a hold leaves of a force: the model. Conditions: none beyond that the words fit.
-/
namespace Go.Proofs.Ytockhhfehjoldaa
open Go Fk Go.RowKit
set_option linter.unusedVariables false
set_option maxRecDepth 8000

end Go.Proofs.Ytockhhfehjoldaa


/-
Rows of integers and lists that the model clones: both together. Conditions: none.
-/
namespace Go.Proofs.Ytockhhfehjoldaa
open Go Fk Go.RowKit
end Go.Proofs.Ytockhhfehjoldaa


/-
What holds leave of forces: the model. Conditions: the lists lie in memory, every place of a hold is one of the forces'.
-/
namespace Go.Proofs.Ytockhhfehjoldaa
open Go Fk Go.RowKit
set_option linter.unusedVariables false
set_option maxRecDepth 16000

/-- One hold leaves of the forces. -/
def leave1 (X : List C3) (h : HC) : List C3 := X.set h.1.toNat (leaveC h (X.getD h.1.toNat c0))
def leaveF (hs : List HC) (fs : List C3) : List C3 := hs.foldl leave1 fs
theorem leaveF_snoc (hs : List HC) (fs : List C3) (k : Nat) (hk : k < hs.length) : leaveF (hs.take (k + 1)) fs = leave1 (leaveF (hs.take k) fs) (hs.getD k hd0) := by
  rw [List.take_succ_eq_append_getElem hk]
  unfold leaveF
  rw [List.foldl_append]
  simp [List.getD, hk]
theorem leaveF_len (hs : List HC) (fs : List C3) : (leaveF hs fs).length = fs.length := by
  induction hs generalizing fs with
  | nil => rfl
  | cons h t ih => show (leaveF t (leave1 fs h)).length = _; rw [ih]; simp [leave1]
/-- A list of vectors that a call returns: none, or one that may be written. -/
def RV (base : Nat) (w : World) (v : Value) (X : List C3) : Prop := ∃ a cap, v = .slice a X.length cap ∧ IsVs w a X.length cap X ∧ Lst base w.heap.size w a (X.length * 3)
theorem RV.nil (base : Nat) (w : World) : RV base w (.slice none 0 0) [] :=
  ⟨none, 0, rfl, ⟨rfl, Nat.le_refl _, by unfold maxLen; omega, fun _ => ⟨rfl, rfl⟩, fun x hx => by cases hx⟩, .inl ⟨rfl, rfl⟩⟩
theorem RV.block {base g cap : Nat} {w : World} {X : List C3} (hg : base ≤ g) (h1 : X.length ≤ cap) (h2 : cap ≤ maxLen) (h : OwnVs w g X) : RV base w (.slice (some ⟨g, 0, none⟩) X.length cap) X := by
  refine ⟨_, cap, rfl, ⟨rfl, h1, h2, by simp, fun x hx i hi => ?_⟩, .inr ⟨g, rfl, hg, h.2.2, h.2.2, fun j hj => ⟨?_, by rw [Nat.zero_add]; exact h.2.1 j⟩⟩⟩
  · cases hx
    obtain ⟨p, q, r, ⟨k0, k1, k2⟩, f⟩ := h.1.2 i hi
    exact ⟨p, q, r, by rw [addr_add', Nat.zero_add]; exact k0, by rw [addr_add', Nat.zero_add]; exact k1, by rw [addr_add', Nat.zero_add]; exact k2, f⟩
  · obtain ⟨p, q, r, ⟨k0, k1, k2⟩, f⟩ := h.1.2 (j / 3) (by omega)
    rw [Nat.zero_add]
    have : j = j / 3 * 3 ∨ j = j / 3 * 3 + 1 ∨ j = j / 3 * 3 + 2 := by omega
    rcases this with e | e | e
    · exact ⟨_, by rw [e]; exact k0⟩
    · exact ⟨_, by rw [e]; exact k1⟩
    · exact ⟨_, by rw [e]; exact k2⟩
/-- What append makes is none, or a block of its own. -/
theorem own_block {w : World} {base n : Nat} {v : Value} {xs : List Value} {cs : List C3} (h : w.ownsRow base 88 3 v n xs) (hp : PV n xs cs) (hn : cs.length = n) :
    (v = .slice none 0 0 ∧ n = 0) ∨ ∃ g cap, v = .slice (some ⟨g, 0, none⟩) n cap ∧ base ≤ g ∧ n ≤ cap ∧ cap ≤ maxLen ∧ OwnVs w g cs := by
  have h' := h
  obtain ⟨h1, h2⟩ := h
  rcases h2 with ⟨rfl, hz⟩ | ⟨g, cap, cur, rfl, hb, hh, hc1, hc2, hs, ht⟩
  · exact .inl ⟨rfl, hz⟩
  · refine .inr ⟨g, cap, rfl, hb, hc1, hc2, ⟨by omega, fun i hi => ?_⟩, fun j => h'.frozenAt j, (h'.lt g rfl).2⟩
    obtain ⟨p, q, r, e0, e1, e2, f⟩ := hp i (by omega)
    exact ⟨p, q, r, ⟨by rw [h'.cellAt _ (by omega)]; exact e0, by rw [h'.cellAt _ (by omega)]; exact e1, by rw [h'.cellAt _ (by omega)]; exact e2⟩, f⟩
theorem step_in {n : Nat} {hs : List HC} {k : Nat} (h : stepB n hs k = true) : inB n (hs.getD k hd0).1 = true := by
  unfold stepB at h; simp only [Bool.and_eq_true] at h; exact h.2.1
end Go.Proofs.Ytockhhfehjoldaa

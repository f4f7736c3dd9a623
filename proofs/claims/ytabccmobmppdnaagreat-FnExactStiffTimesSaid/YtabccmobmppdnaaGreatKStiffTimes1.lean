/-
Texts in one: what StiffTimes stands on, part 1. Conditions: those of each.
-/
import Derived.Test.YtabccmobmppdnaaGreatKStiffTimes0
import Derived.Orders
import Derived.BigFrame
import Derived.Deep.Draws
import Derived.Deep.LoopGhost
import Derived.Test.YtabccmobmppdnaaGreatChecked
import Derived.Outline
import Derived.Lib.Hide
import Derived.Laws.Externs
-- halved
namespace Go.Proofs.YtabccmobmppdnaaGreat
open Go Fk Go.RowKit
set_option linter.unusedVariables false
set_option maxRecDepth 8000
theorem laws_szInt64SS (a : Option Addr) (len cap : Nat) (ts : List (List Int)) (left : Int) (w : World) (ha : IsTs w a len cap ts) (h0 : 0 ≤ left) (h1 : left ≤ 1048576) :
  Calls Tryz.prog 121 #[.slice a len cap, .int .i64 left] w fun e w' => (∃ r : Int, e = .returned (.int .i64 r) ∧ (r = -1 ∨ (0 ≤ r ∧ r ≤ 1048576 ∧ len ≤ 1048576 ∧ ∀ k, k < len → (ts.getD k []).length ≤ 1048576))) ∧ w' = w := by
 have hm : len ≤ 9223372036854775807 := by have h1 := ha.2.1; have h2 := ha.2.2.1; unfold maxLen at h2; omega
 by_cases h : left < len
 ·go_enter Tryz.func121, Tryz.ntmps121
  go_wp2
  go_ret
  exact ⟨⟨-1, rfl, .inl rfl⟩, rfl⟩
 ·have hA : len ≤ 1048576 := by omega
  go_enter Tryz.func121, Tryz.ntmps121
  go_wp2
  go_loopw [1, 5] (fun l i w' => ∃ k : Nat, k ≤ len ∧ i = .int .i64 k ∧ (∃ r : Int, l = .int .i64 r ∧ 0 ≤ r ∧ r ≤ 1048576) ∧ (∀ j, j < k → (ts.getD j []).length ≤ 1048576) ∧ w' = w) (fun _ i _ => len - (intOf i).toNat)
  case atStart => exact ⟨0, Nat.zero_le _, rfl, ⟨_, rfl, by omega, by omega⟩, fun j hj => absurd hj (by omega), rfl⟩
  case round =>
   obtain ⟨k, hk, rfl, ⟨r, rfl, hr0, hr1⟩, hrows, rfl⟩ := hrel
   by_cases hlt : k < len
   ·obtain ⟨b, o, rfl, hcell⟩ := ha.some (by omega)
    obtain ⟨ra, n, c, hc, hi⟩ := hcell k hlt
    have hnl : (ts.getD k []).length = n := hi.1
    have hn : n ≤ 9223372036854775807 := by have h1 := hi.2.1; have h2 := hi.2.2.1; unfold maxLen at h2; omega
    have hk0 : (0 : Int) ≤ (k : Int) := by omega
    have hk1 : (k : Int) < (len : Int) := by omega
    have HR := Lib.hid hrows
    have HN := Lib.hid hnl
    clear hcell ha hi hrows hnl
    go_wp2_with (go_at_call 163; refine (laws_szInt64S _ _ _ _ _ hr0 hr1 hn).mono ?_; rintro e w1 ⟨⟨r', rfl, hr'⟩, hw1⟩; rw [hw1]; clear hw1 w1; rcases hr' with rfl | ⟨hr2, hr3, hn3⟩)
    ·go_ret
     exact ⟨⟨-1, rfl, .inl rfl⟩, rfl⟩
    ·go_wp2
     go_roundw
     case rel =>
      refine ⟨k + 1, by omega, by go_num, ⟨_, rfl, hr2, hr3⟩, fun j hj => ?_, (by first | trivial | rfl)⟩
      by_cases hjk : j = k
      ·subst hjk; rw [HN.out]; exact hn3
      ·exact HR.out j (by omega)
     case measure => simp [intOf]; omega
   ·have hR := Lib.hid hrows
    clear hrows ha
    go_wp2
    go_ret
    exact ⟨⟨_, rfl, .inr ⟨hr0, hr1, hA, fun j hj => hR.out j (by omega)⟩⟩, rfl⟩
def curL (vs : List Value) (d : Value) (n k : Nat) : Array Value := (vs.take k ++ List.replicate (n - k) d).toArray
theorem curL_zero (vs : List Value) (d : Value) (n : Nat) : curL vs d n 0 = madeCells #[d] n := by
 unfold curL madeCells
 apply Array.ext'
 apply List.ext_getElem?
 intro i
 by_cases hi : i < n
 ·simp [hi, Nat.mod_one]
 ·simp [hi]
theorem curL_set (vs : List Value) (d : Value) (n k : Nat) (hk : k < n) (hz : vs.length = n) : (curL vs d n k).setIfInBounds k (vs.getD k d) = curL vs d n (k + 1) := by
 unfold curL
 apply Array.ext'
 rw [Array.toList_setIfInBounds]
 apply List.ext_getElem?
 intro i
 have hk' : k < vs.length := by omega
 have hl : (vs.take k).length = k := by simp; omega
 have hl' : (vs.take (k + 1)).length = k + 1 := by simp; omega
 rw [List.getElem?_set]
 by_cases hi : k = i
 ·subst hi
  rw [if_pos rfl, if_pos (by simp; omega), List.getElem?_append_left (by omega)]
  simp [hk']
 ·rw [if_neg hi]
  by_cases h1 : i < k
  ·rw [List.getElem?_append_left (by omega), List.getElem?_append_left (by omega)]
   simp [h1, show i < k + 1 by omega]
  ·rw [List.getElem?_append_right (by omega), List.getElem?_append_right (by omega), hl, hl', List.getElem?_replicate, List.getElem?_replicate]
   by_cases h2 : i < n
   ·rw [if_pos (by omega), if_pos (by omega)]
   ·rw [if_neg (by omega), if_neg (by omega)]
theorem curL_size (vs : List Value) (d : Value) (n k : Nat) (hk : k ≤ n) (hz : vs.length = n) : (curL vs d n k).size = n := by unfold curL; simp; omega
theorem curL_end (vs : List Value) (d : Value) (n : Nat) (hz : vs.length = n) (i : Nat) (hi : i < n) : (curL vs d n n)[i]? = some (vs.getD i d) := by
 have hi' : i < vs.length := by omega
 have ht : vs.take n = vs := List.take_of_length_le (by omega)
 unfold curL
 rw [ht]
 simp [hi']
theorem info64 : (Tryz.prog.info? 2).map (fun i => (i.zero, i.size, i.bytes)) = some (some (.int .i64 0), 1, 8) := by kernel_rfl
def ints (zs : List Int) : List Value := zs.map fun z => .int .i64 z
theorem ints_getD (zs : List Int) (k : Nat) : (ints zs).getD k (.int .i64 0) = .int .i64 (zs.getD k 0) := by
 unfold ints
 by_cases h : k < zs.length
 ·simp [List.getD, h]
 ·simp [List.getD, h]
set_option maxHeartbeats 400000 in
theorem laws_toInt64S (a : Option Addr) (len cap : Nat) (zs : List Int) (w : World) (h : IsIs w a len cap zs) (hlen : len ≤ 1048576) :
  Calls Tryz.prog 19 #[.slice a len cap] w fun e w' => e = .returned (.slice (some ⟨w.heap.size, 0, none⟩) len len) ∧ IsIs w' (some ⟨w.heap.size, 0, none⟩) len len zs ∧ Below w.heap.size w w' ∧ w.heap.size < w'.heap.size := by
 obtain ⟨i0, hi, hz0, hz1, hz2⟩ := info_parts info64
 have hzl := h.1
 have hil : (ints zs).length = len := by unfold ints; simp; exact hzl
 have hzb := h.2.2.2.1
 have hmk : (Instr.makeSlice 33 (.int .i64 len) (.int .i64 len)).run Tryz.prog w = .ok (.slice (some ⟨w.heap.size, 0, none⟩) len len) (w.alloc (.cells (curL (ints zs) (.int .i64 0) len 0) 2)) := by
  have := run_make (P := Tryz.prog) w 33 2 i0 (.int .i64 0) Tryz.underlying33 hi hz0 .i64 .i64 len len (by omega) (Int.le_refl _) (by rw [hz2]; omega) (by omega)
  rw [this, hz1, curL_zero]; simp; rfl
 have hfin : IsIs (w.alloc (.cells (curL (ints zs) (.int .i64 0) len len) 2)) (some ⟨w.heap.size, 0, none⟩) len len zs := by
  refine ⟨hzl, Nat.le_refl _, by unfold maxLen; omega, hzb, by simp, fun x hx i hi => ?_⟩
  cases hx
  have := curL_end (ints zs) (.int .i64 0) len hil i hi
  rw [ints_getD] at this
  rw [addr_add', Nat.zero_add]; simp [this]
 have HF := Lib.hid hfin
 clear hfin hzb
 go_enter Tryz.func19, Tryz.ntmps19
 go_wp2
 go_loopw [4] (fun i w' => ∃ k : Nat, k ≤ len ∧ i = .int .i64 k ∧ w' = w.alloc (.cells (curL (ints zs) (.int .i64 0) len k) 2)) (fun i _ => len - (intOf i).toNat)
 case atStart => exact ⟨0, Nat.zero_le _, rfl, rfl⟩
 case round =>
  obtain ⟨k, hk, rfl, rfl⟩ := hrel
  by_cases hlt : k < len
  ·obtain ⟨b, o, rfl, hcell⟩ := h.some (by omega)
   have hc0 := hcell k hlt
   have hblt := World.block_lt_of_cell? w _ hc0
   have hc : (w.alloc (.cells (curL (ints zs) (.int .i64 0) len k) 2)).cell? ⟨b, o + k, none⟩ = some (.int .i64 (zs.getD k 0)) := by rw [World.cell?_alloc_lt (h := hblt)]; exact hc0
   have hsz := curL_size (ints zs) (.int .i64 0) len k hk hil
   have hd : (w.alloc (.cells (curL (ints zs) (.int .i64 0) len k) 2)).cell? ⟨w.heap.size, k, none⟩ = some ((curL (ints zs) (.int .i64 0) len k)[k]'(by omega)) := by simp [hsz, hlt]
   have hset2 : (curL (ints zs) (.int .i64 0) len k).setIfInBounds k (.int .i64 (zs.getD k 0)) = curL (ints zs) (.int .i64 0) len (k + 1) := by
    have := curL_set (ints zs) (.int .i64 0) len k hlt hil
    rwa [ints_getD] at this
   generalize zs.getD k 0 = z at *
   have HS := Lib.hid hset2
   clear hset2 hcell hc0 hblt
   go_wp2
   go_roundw
   case rel => exact ⟨k + 1, by omega, by go_num, by rw [HS.out]⟩
   case measure => simp [intOf]; omega
  ·obtain rfl : k = len := by omega
   go_wp2
   go_ret
   exact ⟨rfl, HF.out, (Below.refl _ _).alloc (Nat.le_refl _) _, by simp⟩
end Go.Proofs.YtabccmobmppdnaaGreat
namespace Go.Proofs.YtabccmobmppdnaaGreat
namespace Reg
open Go
set_option linter.unusedVariables false
def low (ops : Array Oper) : Bool := (List.range ops.size).all fun i => ((ops[i]?).map fun o => o.after.all fun e => decide (e.on < i)).getD true
theorem low_spec {ops : Array Oper} (h : low ops = true) {i : Nat} {o : Oper} (ho : ops[i]? = some o) : ∀ e ∈ o.after, e.on < i := by
 have hlt : i < ops.size := (Array.getElem?_eq_some_iff.1 ho).1
 unfold low at h
 rw [List.all_eq_true] at h
 have := h i (List.mem_range.2 hlt)
 rw [ho] at this
 simp only [Option.map_some, Option.getD_some, Array.all_eq_true_iff_forall_mem, decide_eq_true_eq] at this
 exact this
theorem cnt_set : ∀ (l : List Bool) (i : Nat), l[i]? = some false → (l.set i true).count false + 1 = l.count false
 | [], i, h => by simp at h
 | b :: l, 0, h => by simp at h; subst h; simp
 | b :: l, i + 1, h => by
  have ih := cnt_set l i (by simpa using h)
  simp only [List.set_cons_succ, List.count_cons]
  omega
theorem cnt_zero : ∀ (l : List Bool), l.count false = 0 → ∀ i : Nat, i < l.length → l[i]? = some true
 | [], _, i, hi => by simp at hi
 | b :: l, h, i, hi => by
  cases b
  ·simp at h
  ·cases i with
   | zero => rfl
   | succ i => simpa using cnt_zero l (by simpa using h) i (by simpa using hi)
section
variable {P : Program} {ops : Array Oper} {Q : Exit → Act → World → Prop} {md : Region.Mode}
theorem all_of_none (hlow : low ops = true) {listed : Array Bool} (hs : listed.size = ops.size) (hr : Region.ready md ops listed = []) : ∀ i, i < ops.size → listed.getD i false = true := by
 intro i
 induction i using Nat.strongRecOn with
 | _ i ih =>
  intro hi
  cases hl : listed.getD i false
  ·exfalso
   obtain ⟨o, ho⟩ : ∃ o, ops[i]? = some o := ⟨_, Array.getElem?_eq_getElem hi⟩
   have hm : i ∈ Region.ready md ops listed := by
    refine mem_ready.2 ⟨?_, o, ho, fun e he _ => ih e.on (low_spec hlow ho e he) (Nat.lt_trans (low_spec hlow ho e he) hi)⟩
    have hlt : i < listed.size := by omega
    simp [hlt] at hl ⊢; exact hl
   rw [hr] at hm; cases hm
  ·rfl
theorem wpAny_inv (hlow : low ops = true) {Inv : Array Bool → Act → World → Prop}
  (hstep : ∀ i listed a w, listed.size = ops.size → i ∈ Region.ready md ops listed → Inv listed a w → wpOp P ops Q i (Inv (listed.setIfInBounds i true)) a w)
  (hend : ∀ listed a w, (∀ i, i < ops.size → listed.getD i false = true) → Inv listed a w → Q .normal a w) :
  ∀ (fuel : Nat) (listed : Array Bool) (a : Act) (w : World), listed.size = ops.size → listed.toList.count false ≤ fuel → Inv listed a w → wpAny P md ops Q fuel listed a w
 | 0, listed, a, w, hs, hf, hI => by
  have hall : ∀ i, i < ops.size → listed.getD i false = true := by
   intro i hi
   have := cnt_zero listed.toList (by omega) i (by simp; omega)
   have hlt : i < listed.size := by omega
   simp [hlt] at this ⊢; exact this
  refine ⟨?_, hend _ _ _ hall hI⟩
  cases hr : Region.ready md ops listed with
  | nil => rfl
  | cons j l =>
   have hj : j ∈ Region.ready md ops listed := by rw [hr]; exact List.mem_cons_self
   obtain ⟨h1, o, ho, _⟩ := mem_ready.1 hj
   have hlt : j < ops.size := (Array.getElem?_eq_some_iff.1 ho).1
   have h2 := hall j hlt
   have hlt' : j < listed.size := by omega
   simp [hlt'] at h1 h2
   rw [h1] at h2; cases h2
 | fuel + 1, listed, a, w, hs, hf, hI => by
  refine ⟨fun hr => hend _ _ _ (all_of_none hlow hs hr) hI, fun i hi => ?_⟩
  refine wpOp_mono (fun a' w' h => wpAny_inv hlow hstep hend fuel _ a' w' (by simpa using hs) ?_ h) (hstep i listed a w hs hi hI)
  obtain ⟨h1, o, ho, _⟩ := mem_ready.1 hi
  have hlt : i < listed.size := by have := (Array.getElem?_eq_some_iff.1 ho).1; omega
  have hg : listed.toList[i]? = some false := by simp [hlt] at h1 ⊢; exact h1
  have := cnt_set listed.toList i hg
  rw [Array.toList_setIfInBounds]
  omega
def slotOf (ops : Array Oper) (j : Nat) : Option Tmp := (ops[j]?).bind (·.dst)
def behind (ops : Array Oper) (i j : Nat) : Bool := ((ops[j]?).map fun o => o.after.any fun e => e.on == i && Region.binds .any e).getD false
def tidy (ops : Array Oper) (n : Nat) : Bool :=
 low ops && (ops.all fun o => o.guard.isNone) && (ops.all fun o => (o.dst.map fun d => decide (d < n)).getD true) &&
 ((List.range ops.size).all fun i => (List.range ops.size).all fun j => i == j || slotOf ops i == none || slotOf ops i != slotOf ops j) &&
 (List.range ops.size).all fun j => slotOf ops j != none || (List.range ops.size).all fun i => i == j || behind ops i j
theorem slot_val {a : Act} {t : Tmp} {v : Value} (h : a.eval (.tmp t) = v) : a.tmps[t]?.getD undef = v := by simpa [Act.eval] using h
def Has (ops : Array Oper) (R : Nat → Value → World → Prop) (j : Nat) (a : Act) (w : World) : Prop := ∀ d, slotOf ops j = some d → R j (a.eval (.tmp d)) w
def HasT (ops : Array Oper) (T : Nat → Act → World → Prop) (j : Nat) (a : Act) (w : World) : Prop := slotOf ops j = none → j < ops.size → T j a w
theorem behind_spec {ops : Array Oper} {i j : Nat} {o : Oper} (h : behind ops i j = true) (ho : ops[j]? = some o) : ∃ e ∈ o.after, e.on = i ∧ Region.binds .any e = true := by
 unfold behind at h
 rw [ho] at h
 simp only [Option.map_some, Option.getD_some] at h
 obtain ⟨k, hk, hp⟩ := Array.any_eq_true.1 h
 simp only [Bool.and_eq_true, beq_iff_eq] at hp
 exact ⟨_, Array.getElem_mem hk, hp.1, hp.2⟩
def Obl (P : Program) (ops : Array Oper) (a0 : Act) (C : World → Prop) (G : World → World → Prop) (R : Nat → Value → World → Prop) (T : Nat → Act → World → Prop) (Q : Exit → Act → World → Prop) (i : Nat) (o : Oper) : Prop :=
 ∀ a w, C w → (∀ t, ((List.range ops.size).all fun j => slotOf ops j != some t || behind ops i j) = true → a.eval (.tmp t) = a0.eval (.tmp t)) →
  (∀ j, behind ops j i = true → Has ops R j a w) →
  o.wp P a w (fun a' w' => ∃ v, a' = a.put o.dst v ∧ (o.dst ≠ none → R i v w') ∧ (o.dst = none → T i a w') ∧ C w' ∧ G w w') Q
def OblAll (P : Program) (ops : Array Oper) (a0 : Act) (C : World → Prop) (G : World → World → Prop) (R : Nat → Value → World → Prop) (T : Nat → Act → World → Prop) (Q : Exit → Act → World → Prop) : Nat → List Oper → Prop
 | _, [] => True
 | i, o :: l => Obl P ops a0 C G R T Q i o ∧ OblAll P ops a0 C G R T Q (i + 1) l
theorem OblAll.get {a0 : Act} {C : World → Prop} {G : World → World → Prop} {R : Nat → Value → World → Prop} {T : Nat → Act → World → Prop} :
  ∀ {l : List Oper} {k : Nat}, OblAll P ops a0 C G R T Q k l → ∀ {i : Nat} {o : Oper}, l[i]? = some o → Obl P ops a0 C G R T Q (k + i) o
 | [], _, _, _, _, h => by simp at h
 | _ :: _, _, h, 0, _, ho => by simp at ho; subst ho; exact h.1
 | _ :: l, k, h, i + 1, _, ho => by
  have := OblAll.get h.2 (i := i) (by simpa using ho)
  rwa [Nat.add_assoc, Nat.add_comm 1 i] at this
theorem Obl.mk {a0 : Act} {C : World → Prop} {G : World → World → Prop} {R : Nat → Value → World → Prop} {T : Nat → Act → World → Prop} {i : Nat} {o : Oper}
  (h : ∀ a w, C w → (∀ t, ((List.range ops.size).all fun j => slotOf ops j != some t || behind ops i j) = true → a.eval (.tmp t) = a0.eval (.tmp t)) →
   (∀ j, behind ops j i = true → Has ops R j a w) → ∀ K : Act → World → Prop, (∀ v w', (o.dst ≠ none → R i v w') → (o.dst = none → T i a w') → C w' → G w w' → K (a.put o.dst v) w') → o.wp P a w K Q) : Obl P ops a0 C G R T Q i o :=
 fun a w hC he hd => h a w hC he hd _ fun v w' h1 h2 h3 h4 => ⟨v, rfl, h1, h2, h3, h4⟩
theorem wp_region_inv {id : Nat} {a0 : Act} {w0 : World} {C : World → Prop} {G : World → World → Prop} {R : Nat → Value → World → Prop} {T : Nat → Act → World → Prop} (hm : P.follows .mixedOrders = true) (ht : tidy ops a0.tmps.size = true)
  (hG : ∀ j v w w', C w → G w w' → R j v w → R j v w') (hC : C { w0 with drawn := w0.drawn + 1 })
  (hO : OblAll P ops a0 C G R T Q 0 ops.toList)
  (hQ : ∀ a w, C w → a.defers = a0.defers → a.tmps.size = a0.tmps.size → (∀ t, (ops.all fun o => o.dst != some t) = true → a.eval (.tmp t) = a0.eval (.tmp t)) → (∀ j, j < ops.size → Has ops R j a w) → (∀ j, HasT ops T j a w) → Q .normal a w) :
  (Code.region id ops true).wp P Q a0 w0 := by
 unfold tidy at ht
 simp only [Bool.and_eq_true] at ht
 obtain ⟨⟨⟨⟨hlow, hgd⟩, hbd⟩, hdis⟩, hlast⟩ := ht
 have slot_lt : ∀ {j d}, slotOf ops j = some d → j < ops.size := fun {j d} h => by
  unfold slotOf at h
  cases ho : ops[j]? with
  | none => rw [ho] at h; cases h
  | some o => exact (Array.getElem?_eq_some_iff.1 ho).1
 have slot_bd : ∀ {j d}, slotOf ops j = some d → d < a0.tmps.size := fun {j d} h => by
  have hj := slot_lt h
  have := Array.all_eq_true.1 hbd j hj
  unfold slotOf at h
  rw [Array.getElem?_eq_getElem hj] at h
  simp only [Option.bind_some] at h
  rw [h] at this
  simpa using this
 have slot_ne : ∀ {i j d}, slotOf ops i = some d → slotOf ops j = some d → i = j := fun {i j d} h1 h2 => by
  have a1 := slot_lt h1
  have a2 := slot_lt h2
  have := List.all_eq_true.1 (List.all_eq_true.1 hdis i (List.mem_range.2 a1)) j (List.mem_range.2 a2)
  rw [h1, h2] at this
  simpa using this
 let Inv : Array Bool → Act → World → Prop := fun listed a w => C w ∧ a.defers = a0.defers ∧ a.tmps.size = a0.tmps.size ∧
  (∀ t, (∀ j, slotOf ops j = some t → listed.getD j false = false) → a.eval (.tmp t) = a0.eval (.tmp t)) ∧
  (∀ j, listed.getD j false = true → Has ops R j a w) ∧ (∀ i j, listed.getD j false = true → behind ops i j = true → listed.getD i false = true) ∧ (∀ j, listed.getD j false = true → HasT ops T j a w)
 refine wp_region_any hm (wpAny_inv (Inv := Inv) hlow ?_ ?_ _ _ _ _ (by simp) (by simp) ⟨hC, rfl, rfl, fun _ _ => rfl, ?_, ?_, ?_⟩)
 ·intro i listed a w hs hi ⟨hCw, hd, hsz, hext, hhas, hcl, hT⟩
  obtain ⟨hun, o, ho, hdeps⟩ := mem_ready.1 hi
  have hilt : i < ops.size := (Array.getElem?_eq_some_iff.1 ho).1
  have hun' : listed.getD i false = false := by
   have : i < listed.size := by omega
   simp [this] at hun ⊢; exact hun
  have hg : o.guard = none := by
   have := Array.all_eq_true.1 hgd i hilt
   rw [Array.getElem?_eq_getElem hilt] at ho
   cases ho
   simpa using this
  have hob := OblAll.get hO (i := i) (o := o) (by simpa using ho)
  rw [Nat.zero_add] at hob
  have hwp := hob a w hCw (fun t htt => hext t fun j hj => by
    have := List.all_eq_true.1 htt j (List.mem_range.2 (slot_lt hj))
    rw [hj] at this
    simp at this
    cases hl : listed.getD j false
    ·rfl
    ·have := hcl i j hl this; rw [hun'] at this; cases this)
   (fun j hj => hhas j (by
    obtain ⟨e, he, h1, h2⟩ := behind_spec hj ho
    rw [← h1]
    exact hdeps e he h2))
  unfold wpOp
  rw [ho]
  simp only [Region.wanted, hg, if_true]
  refine .inl (Oper.wp_mono ?_ hwp)
  rintro a' w' ⟨v, rfl, hR, hTi, hC', hGw⟩
  have hdst : slotOf ops i = o.dst := by unfold slotOf; rw [ho]; rfl
  have keep : ∀ t, o.dst ≠ some t → (a.put o.dst v).eval (.tmp t) = a.eval (.tmp t) := fun t h => Act.eval_put (fun d hd he => h (by rw [hd]; cases he; rfl))
  have lst : ∀ j, (listed.setIfInBounds i true).getD j false = true → j = i ∨ listed.getD j false = true := fun j h => by
   by_cases hji : i = j
   ·exact .inl hji.symm
   ·rw [getD_set_ne false hji] at h; exact .inr h
  refine ⟨hC', ?_, ?_, ?_, ?_, ?_, ?_⟩
  ·rw [← hd]; unfold Act.put; split <;> rfl
  ·rw [← hsz]; unfold Act.put; split <;> simp
  ·intro t htt
   rw [keep t (fun h => by
    have := htt i (by rw [hdst]; exact h)
    have hlt : i < listed.size := by omega
    simp [hlt] at this)]
   refine hext t fun j hj => ?_
   have := htt j hj
   cases hl : listed.getD j false
   ·rfl
   ·rw [getD_set_true hl] at this; cases this
  ·intro j hj d hjd
   rcases lst j hj with rfl | hj'
   ·rw [hdst] at hjd
    have hb := slot_bd (j := j) (by rw [hdst]; exact hjd)
    have : (a.put o.dst v).eval (.tmp d) = v := by
     unfold Act.put Act.eval; rw [hjd]; simp; exact fun h => absurd (Nat.lt_of_lt_of_le hb (hsz ▸ h)) (Nat.lt_irrefl _)
    rw [this]; exact hR (by rw [hjd]; simp)
   ·rw [keep d (fun h => by
     have := slot_ne (show slotOf ops i = some d by rw [hdst]; exact h) hjd
     subst this; rw [hun'] at hj'; cases hj')]
    exact hG _ _ _ _ hCw hGw (hhas j hj' d hjd)
  ·intro i' j hj hb
   rcases lst j hj with rfl | hj'
   ·refine getD_set_true ?_
    obtain ⟨e, he, h1, h2⟩ := behind_spec hb ho
    rw [← h1]; exact hdeps e he h2
   ·exact getD_set_true (hcl i' j hj' hb)
  ·intro j hj hn hlt
   rcases lst j hj with rfl | hj'
   ·rw [hdst] at hn
    have : a.put o.dst v = a := by rw [hn]; rfl
    rw [this]; exact hTi hn
   ·exfalso
    have h1 := List.all_eq_true.1 hlast j (List.mem_range.2 hlt)
    rw [hn] at h1
    simp only [bne_self_eq_false, Bool.false_or] at h1
    have h2 := List.all_eq_true.1 h1 i (List.mem_range.2 hilt)
    have hne : i ≠ j := fun e => by subst e; rw [hun'] at hj'; cases hj'
    simp [hne] at h2
    have := hcl i j hj' h2
    rw [hun'] at this; cases this
 ·intro listed a w hall ⟨hCw, hd, hsz, hext, hhas, _, hT⟩
  refine hQ a w hCw hd hsz (fun t htt => hext t fun j hj => ?_) (fun j hj => hhas j (hall j hj)) (fun j hn hlt => hT j (hall j hlt) hn hlt)
  exfalso
  have hlt := slot_lt hj
  have := Array.all_eq_true.1 htt j hlt
  unfold slotOf at hj
  rw [Array.getElem?_eq_getElem hlt] at hj
  simp only [Option.bind_some] at hj
  rw [hj] at this
  simp at this
 ·intro j hj
  simp at hj
  rw [Array.getElem?_replicate] at hj; split at hj <;> simp at hj
 ·intro i j hj
  simp at hj
  rw [Array.getElem?_replicate] at hj; split at hj <;> simp at hj
 ·intro j hj
  simp at hj
  rw [Array.getElem?_replicate] at hj; split at hj <;> simp at hj
def mixL (f : Nat → Value) : List Bool → Nat → List Value → List Value
 | true :: m, k, _ :: l => f k :: mixL f m (k + 1) l
 | false :: m, k, v :: l => v :: mixL f m (k + 1) l
 | _, _, _ => []
theorem mixL_eq (f : Nat → Value) : ∀ (m : List Bool) (k : Nat) (l : List Value), m.length = l.length → (∀ i, m[i]? = some false → l[i]? = some (f (k + i))) → mixL f m k l = (List.range' k l.length).map f
 | [], k, [], _, _ => rfl
 | true :: m, k, v :: l, hl, h => by
  rw [mixL, mixL_eq f m (k + 1) l (by simpa using hl) (fun i hi => by have := h (i + 1) (by simpa using hi); rw [show k + 1 + i = k + (i + 1) by omega]; simpa using this)]
  simp [List.range'_succ]
 | false :: m, k, v :: l, hl, h => by
  have h0 := h 0 rfl
  rw [mixL, mixL_eq f m (k + 1) l (by simpa using hl) (fun i hi => by have := h (i + 1) (by simpa using hi); rw [show k + 1 + i = k + (i + 1) by omega]; simpa using this)]
  simp at h0
  simp [List.range'_succ, h0]
 | [], _, _ :: _, hl, _ => by simp at hl
 | _ :: _, _, [], hl, _ => by simp at hl
def maskOk (ops : Array Oper) (m : List Bool) (n : Nat) : Bool := (m.length == n) && (List.range n).all fun t => m.getD t false || ops.all fun o => o.dst != some t
theorem wp_region_mix {id : Nat} {a0 : Act} {w0 : World} {C : World → Prop} {G : World → World → Prop} {R : Nat → Value → World → Prop} {T : Nat → Act → World → Prop} (m : List Bool) (hm : P.follows .mixedOrders = true) (ht : tidy ops a0.tmps.size = true)
  (hk : maskOk ops m a0.tmps.size = true)
  (hG : ∀ j v w w', C w → G w w' → R j v w → R j v w') (hC : C { w0 with drawn := w0.drawn + 1 })
  (hO : OblAll P ops a0 C G R T Q 0 ops.toList)
  (hQ : ∀ (f : Nat → Value) w, C w → (∀ j d, slotOf ops j = some d → R j (f d) w) → (∀ j, HasT ops T j ⟨(mixL f m 0 a0.tmps.toList).toArray, a0.defers⟩ w) → Q .normal ⟨(mixL f m 0 a0.tmps.toList).toArray, a0.defers⟩ w) :
  (Code.region id ops true).wp P Q a0 w0 := by
 refine wp_region_inv hm ht hG hC hO fun a w hCw hd hsz hext hhas hT => ?_
 unfold maskOk at hk
 simp only [Bool.and_eq_true, beq_iff_eq] at hk
 obtain ⟨hml, hmk⟩ := hk
 have e : a = ⟨(mixL (fun t => a.eval (.tmp t)) m 0 a0.tmps.toList).toArray, a0.defers⟩ := by
  rw [mixL_eq _ _ _ _ (by simpa using hml) ?_]
  ·cases a with
   | mk tmps defers =>
    simp only [Act.mk.injEq]
    refine ⟨?_, hd⟩
    apply Array.ext'
    apply List.ext_getElem?
    intro i
    simp only at hsz
    by_cases hi : i < tmps.size
    ·have hi' : i < a0.tmps.size := by omega
     simp [hi, hi', Act.eval]
    ·have hi' : ¬ i < a0.tmps.size := by omega
     simp [hi, hi']
  ·intro i hi
   have hlt : i < a0.tmps.size := by
    have := (List.getElem?_eq_some_iff.1 hi).1; omega
   have h1 := List.all_eq_true.1 hmk i (List.mem_range.2 hlt)
   have h2 : m.getD i false = false := by simp [List.getD, hi]
   rw [h2, Bool.false_or] at h1
   have h3 := hext i h1
   rw [Nat.zero_add, h3]
   simp [Act.eval, hlt]
 have h1 : ∀ j d, slotOf ops j = some d → R j ((fun t => a.eval (.tmp t)) d) w := fun j d hj => hhas j (by
  unfold slotOf at hj
  cases ho : ops[j]? with
  | none => rw [ho] at hj; cases hj
  | some o => exact (Array.getElem?_eq_some_iff.1 ho).1) d hj
 rw [e] at hT ⊢
 exact hQ (fun t => a.eval (.tmp t)) w hCw h1 hT
end
end Reg
end Go.Proofs.YtabccmobmppdnaaGreat
namespace Go.Proofs.YtabccmobmppdnaaGreat
open Go Fk Go.RowKit
set_option linter.unusedVariables false
set_option maxRecDepth 8000
theorem _root_.Go.Proofs.YtabccmobmppdnaaGreat.Fk.IsIs.set {w : World} {a : Addr} {v : Value} {b len cap : Nat} {o : Nat} {zs : List Int} (h : IsIs w (some ⟨b, o, none⟩) len cap zs) (hne : a.block ≠ b) : IsIs (w.setCell a v) (some ⟨b, o, none⟩) len cap zs := by
 obtain ⟨h1, h2, h3, h4, h5, h6⟩ := h
 refine ⟨h1, h2, h3, h4, h5, fun x hx i hi => ?_⟩
 have hc := h6 x hx i hi
 cases hx
 rw [addr_add'] at hc ⊢
 rw [World.cell?_setCell_other _ _ _ _ (by intro h; apply hne; rw [h])]; exact hc
theorem infoS : (Tryz.prog.info? 33).map (fun i => (i.zero, i.size, i.bytes)) = some (some (.slice none 0 0), 1, 24) := by kernel_rfl
theorem made_cell (w : World) (v : Value) (n i : Nat) (t : TypeId) (hi : i < n) : (w.alloc (.cells (madeCells #[v] n) t)).cell? ⟨w.heap.size, i, none⟩ = some v := by
 have : (madeCells #[v] n)[i]? = some v := by unfold madeCells; simp [hi, Nat.mod_one]
 simp [this]
set_option maxHeartbeats 400000 in
theorem laws_toInt64SS (a : Option Addr) (len cap : Nat) (ts : List (List Int)) (w : World) (h : IsTs w a len cap ts) (hlen : len ≤ 1048576) (hrow : ∀ k, k < len → (ts.getD k []).length ≤ 1048576) :
  Calls Tryz.prog 125 #[.slice a len cap] w fun e w' => e = .returned (.slice (some ⟨w.heap.size, 0, none⟩) len len) ∧ IsTs w' (some ⟨w.heap.size, 0, none⟩) len len ts ∧ Below w.heap.size w w' ∧ w.heap.size < w'.heap.size := by
 obtain ⟨i0, hi, hz0, hz1, hz2⟩ := info_parts infoS
 have hzl := h.1
 obtain ⟨g, hg⟩ : ∃ g, g = w.heap.size := ⟨_, rfl⟩
 have hmk : (Instr.makeSlice 23 (.int .i64 len) (.int .i64 len)).run Tryz.prog w = .ok (.slice (some ⟨g, 0, none⟩) len len) (w.alloc (.cells (madeCells #[.slice none 0 0] len) 33)) := by
  have := run_make (P := Tryz.prog) w 23 33 i0 (.slice none 0 0) Tryz.underlying23 hi hz0 .i64 .i64 len len (by omega) (Int.le_refl _) (by rw [hz2]; omega) (by omega)
  rw [this, hz1, hg]; simp; rfl
 have hstart : Below w.heap.size w (w.alloc (.cells (madeCells #[.slice none 0 0] len) 33)) ∧ g < (w.alloc (.cells (madeCells #[.slice none 0 0] len) 33)).heap.size ∧
   (∀ j, j < len → ∃ v, (w.alloc (.cells (madeCells #[.slice none 0 0] len) 33)).cell? ⟨g, j, none⟩ = some v) ∧ (∀ j, (w.alloc (.cells (madeCells #[.slice none 0 0] len) 33)).frozen? ⟨g, j, none⟩ = false) := by
  subst hg
  exact ⟨(Below.refl _ _).alloc (Nat.le_refl _) _, by simp, fun j hj => ⟨_, made_cell w _ len j _ hj⟩, fun j => by simp⟩
 rw [← hg] at hstart ⊢
 have HST := Lib.hid hstart
 have HG := Lib.hid hg
 clear hstart hg
 go_enter Tryz.func125, Tryz.ntmps125
 go_wp2
 generalize hw0 : w.alloc (.cells (madeCells #[.slice none 0 0] len) 33) = w0 at HST ⊢
 go_loopw [4] (fun i w' => ∃ k : Nat, k ≤ len ∧ i = .int .i64 k ∧ Aside ((Below g w w' ∧ g < w'.heap.size ∧ (∀ j, j < len → ∃ v, w'.cell? ⟨g, j, none⟩ = some v) ∧ (∀ j, w'.frozen? ⟨g, j, none⟩ = false)) ∧
   ∀ j, j < k → ∃ G, g < G ∧ w'.cell? ⟨g, j, none⟩ = some (.slice (some ⟨G, 0, none⟩) (ts.getD j []).length (ts.getD j []).length) ∧ IsIs w' (some ⟨G, 0, none⟩) (ts.getD j []).length (ts.getD j []).length (ts.getD j []))) (fun i _ => len - (intOf i).toNat)
 case atStart => exact ⟨0, Nat.zero_le _, rfl, HST.out, fun j hj => absurd hj (by omega)⟩
 case round =>
  obtain ⟨k, hk, rfl, hA⟩ := hrel
  by_cases hlt : k < len
  ·obtain ⟨⟨hB, hgs, hce, hfz⟩, hdone⟩ := hA.out
   have h' := h.below (HG.out ▸ hB)
   obtain ⟨b, o, rfl, hcell⟩ := h'.some (by omega)
   obtain ⟨ra, n, c, hc, hi⟩ := hcell k hlt
   have hnl : (ts.getD k []).length = n := hi.1
   have hn : n ≤ 1048576 := by rw [← hnl]; exact hrow k hlt
   have hk0 : (0 : Int) ≤ (k : Int) := by omega
   have hk1 : (k : Int) < (len : Int) := by omega
   have hfk := hfz k
   obtain ⟨v0, hv0⟩ := hce k hlt
   have HI := Lib.hid hi
   have HD := Lib.hid hdone
   have HN := Lib.hid hnl
   have HC := Lib.hid hce
   have HF := Lib.hid hfz
   have HB := Lib.hid hB
   clear hA hcell h' hi hdone hnl hce hfz hB h
   go_wp2_with fail
   refine (laws_toInt64S _ _ _ _ _ HI.out hn).mono ?_
   rintro e w1 ⟨rfl, hI1, hB1, hS1⟩
   have hv1 : w1.cell? ⟨g, k, none⟩ = some v0 := by rw [hB1.cell (p := ⟨g, k, none⟩) hgs]; exact hv0
   have hf1 : w1.frozen? ⟨g, k, none⟩ = false := by rw [hB1.frozen (p := ⟨g, k, none⟩) hgs]; exact hfk
   have HI1 := Lib.hid hI1
   have HB1 := Lib.hid hB1
   clear hI1 hB1
   go_wp2
   go_roundw
   case rel =>
    have hB1 := HB1.out
    have hn' := HN.out
    refine ⟨k + 1, by omega, by go_num, ⟨⟨(HB.out.trans (hB1.mono (by omega))).setCell (Nat.le_refl _) _, by simp; omega, fun j hj => ?_, fun j => ?_⟩, fun j hj => ?_⟩⟩
    ·by_cases hjk : j = k
     ·subst hjk; exact ⟨_, World.cell?_setCell_same _ _ _ hv1⟩
     ·obtain ⟨v, hv⟩ := HC.out j hj
      exact ⟨v, by rw [World.cell?_setCell_other _ _ _ _ (by simp <;> omega), hB1.cell (p := ⟨g, j, none⟩) hgs]; exact hv⟩
    ·simp; rw [hB1.frozen (p := ⟨g, j, none⟩) hgs]; exact HF.out j
    ·by_cases hjk : j = k
     ·subst hjk
      refine ⟨wr.heap.size, hgs, ?_, ?_⟩
      ·rw [hn', World.cell?_setCell_same _ _ _ hv1]
      ·rw [hn']; exact HI1.out.set (by simp <;> omega)
     ·obtain ⟨G, hG, hcG, hiG⟩ := HD.out j (by omega)
      have := World.block_lt_of_cell? wr _ hcG
      refine ⟨G, hG, ?_, ?_⟩
      ·rw [World.cell?_setCell_other _ _ _ _ (by simp <;> omega), hB1.cell (p := ⟨g, j, none⟩) hgs]; exact hcG
      ·exact (hiG.below hB1).set (by simp <;> omega)
   case measure => simp [intOf]; omega
  ·obtain rfl : k = len := by omega
   obtain ⟨⟨hB, hgs, hce, hfz⟩, hdone⟩ := hA.out
   have hfin : IsTs wr (some ⟨g, 0, none⟩) k k ts := by
    refine ⟨hzl, Nat.le_refl _, by unfold maxLen; omega, by simp, fun x hx i hi => ?_⟩
    cases hx
    obtain ⟨G, hG, hc, hi⟩ := hdone i hi
    exact ⟨_, _, _, by rw [addr_add', Nat.zero_add]; exact hc, hi⟩
   have HF := Lib.hid hfin
   have HB := Lib.hid hB
   clear hA hB hce hfz hdone hfin h
   go_wp2
   go_ret
   exact ⟨rfl, HF.out, HB.out, hgs⟩
end Go.Proofs.YtabccmobmppdnaaGreat
namespace Go.Proofs.YtabccmobmppdnaaGreat
open Go Fk
set_option linter.unusedVariables false
abbrev nan32 (x : Nat) : Bool := (FloatKind.f32.decode x).isNaN
abbrev nan64 (x : Nat) : Bool := (FloatKind.f64.decode x).isNaN
theorem ne_self (k : FloatKind) (x : Nat) : (k.format.order x x != some .eq) = (k.decode x).isNaN := by
 cases h : (k.decode x).isNaN
 ·rw [order_self h]; rfl
 ·rw [order_nan (.inl h)]; rfl
theorem wR_nan (x : Nat) (w : World) : (FloatKind.f64.decode (wR x w)).isNaN = (FloatKind.f32.decode x).isNaN := by
 unfold wR
 cases h : (FloatKind.f32.decode x).isNaN
 ·rw [if_neg (by simp)]; exact wid_nan h
 ·rw [if_pos rfl]; exact (cutConv_nan .f64 x _).2
theorem ret_bool {a b : Bool} (h : a = b) : Ending.returned (.bool a) = .returned (.bool b) := by rw [h]
theorem math_IsNaN (x : Nat) (w : World) :
  Calls Tryz.prog 194 #[.float .f64 x] w fun e w' => e = .returned (.bool (nan64 x)) ∧ w' = w := by
 have u := Tryz.underlying58
 go_enter Tryz.func194, Tryz.ntmps194
 go_wp2
 go_ret
 exact ⟨ret_bool (ne_self .f64 x), rfl⟩
theorem impl_isNaN (x : Nat) (w : World) :
  Calls Tryz.prog 180 #[.float .f32 x] w fun e w' => e = .returned (.bool (nan32 x)) ∧ ∃ n, w' = w.drewN n := by
 have u := Tryz.underlying58
 have u' := Tryz.underlying27
 go_enter Tryz.func180, Tryz.ntmps180
 go_wp2_with (go_at_call 194; refine (math_IsNaN _ _).mono ?_; rintro e w' ⟨rfl, rfl⟩)
 go_ret
 exact ⟨ret_bool (wR_nan x w), _, rfl⟩
@[go_sem] theorem ext_Float64bits (x : Nat) (w : World) : (callFunc 204 #[.float .f64 x]).run Tryz.prog w = .ok (.value (.int .u64 x)) w :=
 (run_callFunc_extern (e := Extern.MathFloatBits.float64bits) Tryz.func204 (by kernel_rfl) (by kernel_rfl) (by kernel_rfl) (by kernel_rfl) _ _).trans rfl
@[go_sem] theorem ext_Float64frombits (n : Int) (w : World) : (callFunc 203 #[.int .u64 n]).run Tryz.prog w = .ok (.value (.float .f64 n.toNat)) w :=
 (run_callFunc_extern (e := Extern.MathFloatBits.float64frombits) Tryz.func203 (by kernel_rfl) (by kernel_rfl) (by kernel_rfl) (by kernel_rfl) _ _).trans rfl
theorem dec32 (x : Nat) : FloatKind.f32.decode x = if x % 2147483648 < 8388608 then .number (x / 2147483648 % 2 == 1) (x % 2147483648) (-149)
  else if x % 2147483648 < 2139095040 then .number (x / 2147483648 % 2 == 1) (8388608 + x % 2147483648 % 8388608) (-149 + (x % 2147483648 / 8388608 - 1 : Nat))
  else if x % 2147483648 = 2139095040 then .infinity (x / 2147483648 % 2 == 1) else .nan (x / 2147483648 % 2 == 1) (x % 2147483648 - 2139095040) := rfl
def finB (x : Nat) : Bool := decide (x % 2147483648 < 2139095040)
theorem dec32_fin {x : Nat} (h : x % 2147483648 < 2139095040) : ∃ m p, FloatKind.f32.decode x = .number (x / 2147483648 % 2 == 1) m p := by
 rw [dec32]
 split
 ·exact ⟨_, _, rfl⟩
 ·exact ⟨_, _, rfl⟩
theorem dec32_inf {x : Nat} (h : x % 2147483648 = 2139095040) : FloatKind.f32.decode x = .infinity (x / 2147483648 % 2 == 1) := by
 rw [dec32, if_neg (by omega), if_neg (by omega), if_pos h]
theorem dec32_nan {x : Nat} (h : 2139095040 < x % 2147483648) : ∃ s t, FloatKind.f32.decode x = .nan s t := by
 rw [dec32, if_neg (by omega), if_neg (by omega), if_neg (by omega)]; exact ⟨_, _, rfl⟩
theorem nan32_iff (x : Nat) : nan32 x = decide (2139095040 < x % 2147483648) := by
 rw [show nan32 x = (FloatKind.f32.decode x).isNaN from rfl, isNaN_decode]; rfl
theorem write_zero (k : FloatKind) (s : Bool) (p : Int) : k.format.write (.number s 0 p) = if s then k.format.signWeight else 0 := by
 show k.format.nearest s 0 p = _
 unfold Ieee.Format.nearest Ieee.Format.word
 simp
theorem sub_self32 (x : Nat) : floatBits .sub .f32 x x = if finB x = true then some 0 else none := by
 show ((FloatKind.f32.decode x).sum (FloatKind.f32.decode x).opposite).map FloatKind.f32.format.write = _
 unfold finB
 rcases Nat.lt_trichotomy (x % 2147483648) 2139095040 with h | h | h
 ·obtain ⟨m, p, e⟩ := dec32_fin h
  rw [e, if_pos (by simpa using h)]
  generalize (x / 2147483648 % 2 == 1) = s
  have : Ieee.signed s m (p - min p p).toNat + Ieee.signed (!s) m (p - min p p).toNat = 0 := by
   unfold Ieee.signed; cases s <;> simp <;> omega
  simp only [Ieee.Datum.opposite, Ieee.Datum.sum, this, if_true, Option.map_some]
  rw [show (s && !s) = false by cases s <;> rfl]
  rw [show (0 : Int).natAbs = 0 from rfl, write_zero]; rfl
 ·rw [dec32_inf h, if_neg (by simp; omega)]
  cases (x / 2147483648 % 2 == 1) <;> rfl
 ·obtain ⟨s, t, e⟩ := dec32_nan h
  rw [e, if_neg (by simp; omega)]; rfl
theorem l01Finite (x : Nat) (w : World) (hx : x < 4294967296) :
  Calls Tryz.prog 137 #[.float .f32 x] w fun e w' => e = .returned (.bool (finB x)) ∧ ∃ n, w' = w.drewN n := by
 have hs := sub_self32 x
 have hv : FV .f32 (fR .sub .f32 x x w) (fop .sub .f32 (cls .f32 x) (cls .f32 x)) := FV_fR (FV.self hx) (FV.self hx)
 have hv0 : FV .f32 0 (some 0) := ⟨by decide, by decide⟩
 have ho := ford_of hv hv0
 have h00 : FloatKind.f32.format.order 0 0 = some .eq := by decide
 have hgoal : (FloatKind.f32.format.order (fR .sub .f32 x x w) 0 == some .eq) = finB x := by
  rw [ho]
  cases hf : finB x
  ·rw [hf] at hs
   have : fop .sub .f32 (cls .f32 x) (cls .f32 x) = none := by
    unfold cls
    split
    ·rfl
    ·exact hs
   rw [this]; rfl
  ·rw [hf] at hs
   have hn : (FloatKind.f32.decode x).isNaN = false := (floatBits_ok (r := 0) (by rw [hs]; rfl)).1
   have : fop .sub .f32 (cls .f32 x) (cls .f32 x) = some 0 := by rw [cls_num hn]; exact hs
   rw [this]; exact (congrArg (· == some Ordering.eq) h00)
 clear hs hv hv0 ho h00
 have H := Lib.hid hgoal
 clear hgoal
 go_enter Tryz.func137, Tryz.ntmps137
 go_wp2
 go_ret
 exact ⟨ret_bool H.out, _, rfl⟩
theorem math_Abs (x : Nat) (w : World) (hx : x < 18446744073709551616) :
  Calls Tryz.prog 195 #[.float .f64 x] w fun e w' => e = .returned (.float .f64 (x % 9223372036854775808)) ∧ w' = w := by
 have u := Tryz.underlying58
 go_enter Tryz.func195, Tryz.ntmps195
 go_wp2
 go_ret
 refine ⟨?_, rfl⟩
 have e : bits .andNot .u64 (x : Int) ((9223372036854775808 : Nat) : Int) = ((x % 9223372036854775808 : Nat) : Int) := by
  rw [u64_andNot_nat x 9223372036854775808 hx (by decide)]
  rw [show (18446744073709551615 - 9223372036854775808 : Nat) = 2 ^ 63 - 1 by decide, Nat.and_two_pow_sub_one_eq_mod]
 show Ending.returned (Value.float FloatKind.f64 (bits .andNot .u64 (x : Int) ((9223372036854775808 : Nat) : Int)).toNat) = _
 rw [e, Int.toNat_natCast]
theorem quo_one (x : Nat) (hn : (FloatKind.f64.decode x).isNaN = false) : ∃ r, floatBits .quo .f64 4607182418800017408 x = some r := by
 show ∃ r, ((FloatKind.f64.decode 4607182418800017408).quotient _ (FloatKind.f64.decode x)).map FloatKind.f64.format.write = some r
 have e : FloatKind.f64.decode 4607182418800017408 = .number false 4503599627370496 (-52) := by decide
 rw [e]
 cases hd : FloatKind.f64.decode x with
 | nan s t => rw [hd] at hn; simp [Ieee.Datum.isNaN] at hn
 | infinity s => exact ⟨_, rfl⟩
 | number s m p =>
  by_cases hm : m = 0
  ·subst hm; exact ⟨_, rfl⟩
  ·simp only [Ieee.Datum.quotient, if_neg hm]; exact ⟨_, rfl⟩
theorem laws_sameFloat (a b : Nat) (c : Option Nat) (w : World) (ha : FV .f64 a c) (hb : FV .f64 b c) :
  Calls Tryz.prog 31 #[.float .f64 a, .float .f64 b] w fun e w' => e = .returned (.bool true) ∧ ∃ n, w' = w.drewN n := by
 have u := Tryz.underlying58
 cases c with
 | none =>
  have h1 : FloatKind.f64.format.order a a = none := order_nan (.inl ha.nan)
  have h2 : FloatKind.f64.format.order b b = none := order_nan (.inl hb.nan)
  clear ha hb
  go_enter Tryz.func31, Tryz.ntmps31
  go_wp2
  go_ret
  exact ⟨rfl, 0, rfl⟩
 | some x =>
  obtain rfl := ha.num
  obtain rfl := hb.num
  have h1 : FloatKind.f64.format.order b b = some .eq := order_self ha.notnan
  obtain ⟨r, hr⟩ := quo_one b ha.notnan
  have h2 : ∀ w, fR .quo .f64 4607182418800017408 b w = r := fun w => by unfold fR; rw [hr]
  clear ha hb hr
  cases h0 : (FloatKind.f64.format.order b 0 == some .eq)
  all_goals
   go_enter Tryz.func31, Tryz.ntmps31
   go_wp2
   go_ret
   first | exact ⟨rfl, 0, rfl⟩ | exact ⟨rfl, _, rfl⟩ | exact ⟨ret_bool (by simp), _, rfl⟩
theorem max64 : FloatKind.f64.decode 9218868437227405311 = .number false 9007199254740991 971 := by decide
theorem gt_max (x : Nat) (hx : x < 18446744073709551616) : (FloatKind.f64.format.order x 9218868437227405311 == some .gt) = decide (x = 9218868437227405312) := by
 have e3 : 2 ^ FloatKind.f64.format.width = 18446744073709551616 := by decide
 have nm : (FloatKind.f64.decode 9218868437227405311).isNaN = false := by rw [max64]; rfl
 cases hn : (FloatKind.f64.decode x).isNaN
 ·rw [order_key (by rw [e3]; exact hx) (by rw [e3]; decide) hn nm]
  have hn' := hn
  rw [isNaN_decode] at hn'
  have e1 : FloatKind.f64.format.infRung = 9218868437227405312 := by decide
  have e2 : FloatKind.f64.format.signWeight = 9223372036854775808 := by decide
  rw [e1, e2] at hn'
  have hn'' : ¬ 9218868437227405312 < x % 9223372036854775808 := by simpa using hn'
  have k1 : key .f64 9218868437227405311 = 9218868437227405311 := by decide
  have k2 : key .f64 x = if x < 9223372036854775808 then (x : Int) else 9223372036854775808 - x := by unfold key; rw [e2]; rfl
  rw [k1]
  by_cases h : x = 9218868437227405312
  ·rw [decide_eq_true h]
   have : key .f64 x > 9218868437227405311 := by rw [k2, if_pos (by omega)]; omega
   rw [Int.compare_eq_gt.2 this]; rfl
  ·rw [decide_eq_false h]
   have : ¬ key .f64 x > 9218868437227405311 := by rw [k2]; split <;> omega
   cases hc : compare (key .f64 x) 9218868437227405311
   ·rfl
   ·rfl
   ·exact absurd (Int.compare_eq_gt.1 hc) this
 ·rw [order_nan (.inl hn)]
  by_cases h : x = 9218868437227405312
  ·subst h; rw [isNaN_decode] at hn; exact absurd hn (by decide)
  ·rw [decide_eq_false h]; rfl
theorem math_IsInf0 (x : Nat) (w : World) (hx : x < 18446744073709551616) :
  Calls Tryz.prog 181 #[.float .f64 x, .int .i64 0] w fun e w' => e = .returned (.bool (decide (x % 9223372036854775808 = 9218868437227405312))) ∧ w' = w := by
 have u := Tryz.underlying58
 have h := gt_max (x % 9223372036854775808) (by omega)
 have H := Lib.hid h
 clear h
 go_enter Tryz.func181, Tryz.ntmps181
 go_wp2_with (go_at_call 195; refine (math_Abs _ _ (by assumption)).mono ?_; rintro e w' ⟨rfl, rfl⟩)
 go_ret
 exact ⟨ret_bool H.out, rfl⟩
theorem wid_cases {x : Nat} (hx : x < 4294967296) (hn : nan32 x = false) :
  (x % 2147483648 = 2139095040 ∧ wid x = (if x < 2147483648 then 0 else 9223372036854775808) + 9218868437227405312) ∨
  (x % 2147483648 < 2139095040 ∧ ∃ r, r < 5188146770730811392 ∧ wid x = (if x < 2147483648 then 0 else 9223372036854775808) + r) := by
 rw [nan32_iff] at hn
 have hn' : ¬ 2139095040 < x % 2147483648 := by simpa using hn
 have hs : (x / 2147483648 % 2 == 1) = decide (¬ x < 2147483648) := by
  by_cases h : x < 2147483648
  ·rw [Nat.div_eq_of_lt h]; simp [h]
  ·have h1 : x / 2147483648 = 1 := by omega
   rw [h1]; simp [h]
 have e2 : Ieee.double.signWeight = 9223372036854775808 := by decide
 by_cases h : x % 2147483648 = 2139095040
 ·refine .inl ⟨h, ?_⟩
  have e1 : Ieee.double.infRung = 9218868437227405312 := by decide
  unfold wid
  rw [dec32_inf h, hs]
  show Ieee.double.word _ Ieee.double.infRung = _
  unfold Ieee.Format.word
  rw [e1, e2]
  by_cases h2 : x < 2147483648 <;> simp [h2]
 ·refine .inr ⟨by omega, ?_⟩
  obtain ⟨m, p, e⟩ := dec32_fin (x := x) (by omega)
  obtain ⟨r, he, hr⟩ := wid_word x _ m p e
  refine ⟨r, hr, ?_⟩
  rw [he, hs]
  unfold Ieee.Format.word
  rw [e2]
  by_cases h2 : x < 2147483648 <;> simp [h2]
theorem wR_lt {x : Nat} (w : World) (hx : x < 4294967296) : wR x w < 18446744073709551616 := (FV_wR (FV.self (k := .f32) hx)).1
theorem wR_num {x : Nat} (w : World) (hn : nan32 x = false) : wR x w = wid x := by unfold wR; rw [if_neg (by simp [hn])]
theorem inf0 {x : Nat} (w : World) (hx : x < 4294967296) (hn : nan32 x = false) : decide (wR x w % 9223372036854775808 = 9218868437227405312) = !finB x := by
 rw [wR_num w hn]
 unfold finB
 rcases wid_cases hx hn with ⟨h1, h2⟩ | ⟨h1, r, hr, h2⟩
 ·rw [h2, decide_eq_true (by split <;> omega), decide_eq_false (by omega)]; rfl
 ·rw [h2, decide_eq_false (by split <;> omega), decide_eq_true h1]; rfl
theorem impl_IsFinite (x : Nat) (w : World) (hx : x < 4294967296) :
  Calls Tryz.prog 152 #[.float .f32 x] w fun e w' => e = .returned (.bool (finB x)) ∧ ∃ n, w' = w.drewN n := by
 have u := Tryz.underlying58
 have u' := Tryz.underlying27
 have hlt := fun w => wR_lt (x := x) w hx
 cases hn : nan32 x
 ·have h0 := fun w => inf0 (x := x) w hx hn
  go_enter Tryz.func152, Tryz.ntmps152
  go_wp2_with (first
   | (go_at_call 180; refine (impl_isNaN _ _).mono ?_; rintro e w' ⟨rfl, n, rfl⟩)
   | (go_at_call 181; refine (math_IsInf0 _ _ (hlt _)).mono ?_; rintro e w' ⟨rfl, rfl⟩))
  go_ret
  exact ⟨ret_bool (by simp), _, rfl⟩
 ·have hf : finB x = false := by
   rw [nan32_iff] at hn; unfold finB; simp at hn ⊢; omega
  have H := Lib.hid hf
  clear hf
  go_enter Tryz.func152, Tryz.ntmps152
  go_wp2_with (first
   | (go_at_call 180; refine (impl_isNaN _ _).mono ?_; rintro e w' ⟨rfl, n, rfl⟩))
  go_ret
  exact ⟨ret_bool H.out.symm, _, rfl⟩
end Go.Proofs.YtabccmobmppdnaaGreat
namespace Go.Proofs.YtabccmobmppdnaaGreat
namespace Fk
open Go
set_option linter.unusedVariables false
def nar (y : Nat) : Nat := FloatKind.f32.encode (FloatKind.f64.decode y)
def ovf (y : Nat) : Bool := match FloatKind.f64.decode y with
 | .number s m p => (FloatKind.f32.decode (FloatKind.f32.encode (.number s m p))).isInfinity
 | _ => false
def nR (y : Nat) (w : World) : Nat := if (FloatKind.f64.decode y).isNaN then (Question.nanConv .f32 y).cut (w.tape w.drawn (.nanConv .f32 y))
 else if ovf y then (Question.floatToFloat y).cut (w.tape w.drawn (.floatToFloat y)) else nar y
def nN (y : Nat) : Nat := if (FloatKind.f64.decode y).isNaN then 1 else if ovf y then 1 else 0
theorem nar_lt (y : Nat) : nar y < 2 ^ FloatKind.f32.format.width := FloatKind.f32.format.write_lt _
theorem FV_nR {y : Nat} {w : World} {c : Option Nat} (h : FV .f64 y c) (ho : ovf y = false) : FV .f32 (nR y w) (c.map nar) := by
 unfold nR
 cases c with
 | none =>
  rw [if_pos h.nan]
  have := cutConv_nan .f32 y (w.tape w.drawn (.nanConv .f32 y))
  exact ⟨this.1, cls_nan this.2⟩
 | some a =>
  obtain rfl := h.num
  have hn := h.notnan
  rw [if_neg (by simp [hn]), if_neg (by simp [ho])]
  exact ⟨nar_lt y, cls_num (isNaN_write .f32 _ hn)⟩
section
variable {P : Program} (w : World)
@[go_sem] theorem run_nR (src dst : TypeId) (y : Nat) (hs : (P.underlying src).isSome = true) (hd : P.underlying dst = some (.float .f32)) :
  (convert src dst (.float .f64 y)).run P w = .ok (.float .f32 (nR y w)) (w.drewN (nN y)) := by
 obtain ⟨u, hs'⟩ := Option.isSome_iff_exists.1 hs
 have hq : (Question.nanConv .f32 y).forced = false := rfl
 have hq' : (Question.floatToFloat y).forced = false := rfl
 cases hd' : FloatKind.f64.decode y with
 | nan s t =>
  have e : (FloatKind.f64.decode y).isNaN = true := by rw [hd']; rfl
  unfold nR nN
  rw [if_pos e, if_pos e]
  cases u <;> simp [convert, run_underlying hs', run_underlying hd, Conv.floatToFloat, hd', hq] <;> rfl
 | infinity s =>
  have e : (FloatKind.f64.decode y).isNaN = false := by rw [hd']; rfl
  have e' : ovf y = false := by unfold ovf; rw [hd']
  unfold nR nN
  rw [e, e', if_neg Bool.false_ne_true, if_neg Bool.false_ne_true, if_neg Bool.false_ne_true, if_neg Bool.false_ne_true]
  unfold nar; rw [hd']
  cases u <;> simp [convert, run_underlying hs', run_underlying hd, Conv.floatToFloat, hd'] <;> rfl
 | number s m p =>
  have e : (FloatKind.f64.decode y).isNaN = false := by rw [hd']; rfl
  have eo : ovf y = (FloatKind.f32.decode (FloatKind.f32.encode (.number s m p))).isInfinity := by unfold ovf; rw [hd']
  unfold nR nN
  rw [e, if_neg Bool.false_ne_true, if_neg Bool.false_ne_true]
  cases ho : ovf y
  ·rw [ho] at eo
   rw [if_neg Bool.false_ne_true, if_neg Bool.false_ne_true]
   unfold nar; rw [hd']
   cases u <;> simp [convert, run_underlying hs', run_underlying hd, Conv.floatToFloat, hd', eo.symm] <;> rfl
  ·rw [ho] at eo
   rw [if_pos rfl, if_pos rfl]
   cases u <;> simp [convert, run_underlying hs', run_underlying hd, Conv.floatToFloat, hd', eo.symm, hq'] <;> rfl
end
theorem kept_le (f : Ieee.Format) (s : Bool) (m : Nat) (p last : Int) (h0 : m ≠ 0) (h1 : p + m.log2 - f.fractionBits ≤ last) :
  Ieee.Toward.even.cut s (m <<< (p - last).toNat) (last - p).toNat ≤ 2 * f.binade := by
 have hB : 2 * f.binade = 2 ^ (f.fractionBits + 1) := by unfold Ieee.Format.binade; rw [Nat.pow_succ, Nat.mul_comm]
 rw [hB]
 have hlt : m < 2 ^ (m.log2 + 1) := Nat.lt_log2_self
 by_cases hp : p ≤ last
 ·have e : (p - last).toNat = 0 := by omega
  rw [e, Nat.shiftLeft_zero]
  generalize hd : (last - p).toNat = d
  have hd' : m.log2 ≤ f.fractionBits + d := by omega
  unfold Ieee.Toward.cut
  dsimp only
  rw [Nat.shiftLeft_eq, Nat.one_mul]
  have hlow : m / 2 ^ min d (m.log2 + 2) + 1 ≤ 2 ^ (f.fractionBits + 1) := by
   by_cases h : d ≤ m.log2 + 2
   ·rw [Nat.min_eq_left h]
    have : m / 2 ^ d < 2 ^ (f.fractionBits + 1) := by
     rw [Nat.div_lt_iff_lt_mul (Nat.two_pow_pos _), ← Nat.pow_add]
     exact Nat.lt_of_lt_of_le hlt (Nat.pow_le_pow_right (by decide) (by omega))
    omega
   ·rw [Nat.min_eq_right (by omega)]
    have : m / 2 ^ (m.log2 + 2) = 0 := Nat.div_eq_of_lt (Nat.lt_of_lt_of_le hlt (Nat.pow_le_pow_right (by decide) (by omega)))
    rw [this]
    exact Nat.two_pow_pos _
  refine Nat.le_trans (Nat.add_le_add_left ?_ _) hlow
  cases (2 ^ min d (m.log2 + 2) < 2 * (m % 2 ^ min d (m.log2 + 2)) || (2 ^ min d (m.log2 + 2) == 2 * (m % 2 ^ min d (m.log2 + 2)) && m / 2 ^ min d (m.log2 + 2) % 2 == 1)) <;> simp
 ·have e : (last - p).toNat = 0 := by omega
  rw [e, even_cut_zero, Nat.shiftLeft_eq]
  have : m * 2 ^ (p - last).toNat < 2 ^ (m.log2 + 1) * 2 ^ (p - last).toNat := Nat.mul_lt_mul_of_pos_right hlt (Nat.two_pow_pos _)
  rw [← Nat.pow_add] at this
  exact Nat.le_trans (Nat.le_of_lt this) (Nat.pow_le_pow_right (by decide) (by omega))
theorem nearest_small (f : Ieee.Format) (s : Bool) (m : Nat) (p e : Int) (h : m ≠ 0 → p + m.log2 < e) (he : f.leastPlace + f.fractionBits + 1 ≤ e) :
  ∃ r, f.nearest s m p = f.word s r ∧ r ≤ (e - f.fractionBits - f.leastPlace + 1).toNat * f.binade ∧ r ≤ f.infRung := by
 unfold Ieee.Format.nearest
 dsimp only
 by_cases h0 : m = 0
 ·rw [if_pos h0]; exact ⟨0, rfl, Nat.zero_le _, Nat.zero_le _⟩
 ·rw [if_neg h0]
  refine ⟨_, rfl, ?_, Nat.min_le_right _ _⟩
  refine Nat.le_trans (Nat.min_le_left _ _) ?_
  have h1 := h h0
  generalize hl : max (p + (m.log2 : Int) - f.fractionBits) f.leastPlace = last
  have hk := kept_le f s m p last h0 (by omega)
  have hle : (last - f.leastPlace).toNat + 2 ≤ (e - f.fractionBits - f.leastPlace + 1).toNat := by omega
  have := Nat.mul_le_mul_right f.binade hle
  rw [Nat.add_mul] at this
  omega
def MB (k : FloatKind) (x : Nat) (e : Int) : Prop := ∃ s m p, k.decode x = .number s m p ∧ (m ≠ 0 → p + m.log2 < e)
theorem MB.mono {k : FloatKind} {x : Nat} {e e' : Int} (h : MB k x e) (he : e ≤ e') : MB k x e' := by
 obtain ⟨s, m, p, h1, h2⟩ := h; exact ⟨s, m, p, h1, fun h => by have := h2 h; omega⟩
theorem ovf_small {y : Nat} (h : MB .f64 y 127) : ovf y = false := by
 obtain ⟨s, m, p, h1, h2⟩ := h
 unfold ovf
 rw [h1]
 show (FloatKind.f32.decode (FloatKind.f32.format.nearest s m p)).isInfinity = false
 obtain ⟨r, hr, hb, _⟩ := nearest_small FloatKind.f32.format s m p 127 h2 (by decide)
 have e1 : (127 - (FloatKind.f32.format.fractionBits : Int) - FloatKind.f32.format.leastPlace + 1).toNat * FloatKind.f32.format.binade = 2130706432 := by decide
 rw [e1] at hb
 rw [hr]
 show (FloatKind.f32.format.read (FloatKind.f32.format.word s r)).isInfinity = false
 have e2 : FloatKind.f32.format.infRung = 2139095040 := by decide
 unfold Ieee.Format.read
 dsimp only
 rw [word_mod _ _ _ (show r < FloatKind.f32.format.signWeight by rw [show FloatKind.f32.format.signWeight = 2147483648 by decide]; omega)]
 split
 ·rfl
 ·rw [if_pos (by rw [e2]; omega)]; rfl
end Fk
end Go.Proofs.YtabccmobmppdnaaGreat

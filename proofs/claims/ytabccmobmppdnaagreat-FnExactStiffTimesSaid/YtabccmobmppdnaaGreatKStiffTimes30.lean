/-
Texts in one: what StiffTimes stands on, part 30. Conditions: those of each.
-/
import Derived.Test.YtabccmobmppdnaaGreatKStiffTimes29
-- halved
namespace Go.Proofs.YtabccmobmppdnaaGreat
open Go Fk Go.RowKit
set_option linter.unusedVariables false
set_option maxRecDepth 16000
set_option maxHeartbeats 4000000 in
theorem weight_forces (w0 : World) (L : List (Nat × List Value)) (fb g n : Nat) (X : List C3) (w : World) (h : St w0 L g X w) (hm : (fb, [Value.slice (some ⟨g, 0, none⟩) n n]) ∈ L) (hn : X.length = n) (hx9 : n ≤ 1048576) (k : Nat) (hk : k < n) (wc : Option Nat) (f : C3) (x ra rb rc : Nat) (pv : Value) (fx : FV .f32 x wc) (ff : F3 ra rb rc f) :
  Calls Tryz.prog 263 #[.agg #[.int .i64 (k : Int), .float .f32 x, .float .f32 ra, .float .f32 rb, .float .f32 rc], pv, .func (.func 170) #[] #[.pointer (some ⟨fb, 0, none⟩)]] w fun e w' => e = .returned (.tuple #[]) ∧ St w0 L g (addAt X k (scaleC f wc)) w' := by
 have u := Tryz.underlying27
 have uv := Tryz.underlying42
 have uw := Tryz.underlying200
 have S1' : St w0 ((w.heap.size, [.int .i64 (k : Int), .float .f32 x, .float .f32 ra, .float .f32 rb, .float .f32 rc]) :: L) g X (w.alloc (.cells #[.int .i64 (k : Int), .float .f32 x, .float .f32 ra, .float .f32 rb, .float .f32 rc] 200)) := h.box
 have S1 := Lib.hid S1'
 have HM := Lib.hid (List.Mem.tail (w.heap.size, ([.int .i64 (k : Int), .float .f32 x, .float .f32 ra, .float .f32 rb, .float .f32 rc] : List Value)) hm)
 have HX := Lib.hid hn
 have HKn := Lib.hid hk
 have FX := Lib.hid fx
 have FF := Lib.hid ff
 clear h hm S1' fx ff hn hk
 go_enter Tryz.func263, Tryz.ntmps263
 go_wp2_with fail
 generalize (w.alloc (.cells #[.int .i64 (k : Int), .float .f32 x, .float .f32 ra, .float .f32 rb, .float .f32 rc] 200)) = W at *
 generalize w.heap.size = b at *
 refine Reg5.wp_region_mix (m := 8) (C := St w0 ((b, [.int .i64 (k : Int), .float .f32 x, .float .f32 ra, .float .f32 rb, .float .f32 rc]) :: L) g X) (D := St w0 ((b, [.int .i64 (k : Int), .float .f32 x, .float .f32 ra, .float .f32 rb, .float .f32 rc]) :: L) g (addAt X k (scaleC f wc))) (G := fun w1 w2 => Below w1.heap.size w1 w2) (G' := fun w1 w2 => w2 = w1) (R := fun i' v w' => match i' with | 0 => v = .func (.func 170) #[] #[.pointer (some ⟨fb, 0, none⟩)] | 1 => v = .pointer (some ⟨b, 0, none⟩) | 2 => v = .int .i64 (k : Int) | 3 => v = .pointer (some ⟨b, 2, none⟩) | 4 => v = vv ra rb rc | 5 => v = .pointer (some ⟨b, 1, none⟩) | 6 => v = .float .f32 x | 7 => ∃ p q r, v = vv p q r ∧ F3 p q r (scaleC f wc) | _ => True) (T := fun _ _ _ => True) [false, false, false, false, false, false, true, true, true, true, true, true, true, true, true]
  (by kernel_rfl) (by kernel_rfl) (by kernel_rfl) (by kernel_rfl) (fun _ _ _ _ _ _ _ h => h) (fun _ _ _ _ _ _ _ h => h) (S1.out.drewN 1) ?_ ?_
 ·refine ⟨Reg5.Obl.early rfl rfl ?_, Reg5.Obl.early rfl rfl ?_, Reg5.Obl.early rfl rfl ?_, Reg5.Obl.early rfl rfl ?_, Reg5.Obl.early rfl rfl ?_, Reg5.Obl.early rfl rfl ?_, Reg5.Obl.early rfl rfl ?_, Reg5.Obl.early rfl rfl ?_, Reg5.Obl.mid rfl rfl ?_, trivial⟩
  ·rintro a w1 HC hx hd K hK
   replace HC := Lib.hid HC
   have t2 : a.tmps[2]?.getD undef = .func (.func 170) #[] #[.pointer (some ⟨fb, 0, none⟩)] := Reg.slot_val (hx 2 (by kernel_rfl))
   go_simp
   exact hK _ _ rfl HC.out (Below.refl _ _)
  ·rintro a w1 HC hx hd K hK
   replace HC := Lib.hid HC
   have t3 : a.tmps[3]?.getD undef = .pointer (some ⟨b, 0, none⟩) := Reg.slot_val (hx 3 (by kernel_rfl))
   go_simp
   exact hK _ _ rfl HC.out (Below.refl _ _)
  ·rintro a w1 HC hx hd K hK
   replace HC := Lib.hid HC
   have y0 := (HC.out.mem (.head _)) 0 _ rfl
   have t7 : a.tmps[7]?.getD undef = .pointer (some ⟨b, 0, none⟩) := Reg.slot_val (hd 1 (by kernel_rfl) 7 rfl)
   go_simp
   exact hK _ _ rfl HC.out (Below.refl _ _)
  ·rintro a w1 HC hx hd K hK
   replace HC := Lib.hid HC
   have t3 : a.tmps[3]?.getD undef = .pointer (some ⟨b, 0, none⟩) := Reg.slot_val (hx 3 (by kernel_rfl))
   go_simp
   exact hK _ _ rfl HC.out (Below.refl _ _)
  ·rintro a w1 HC hx hd K hK
   replace HC := Lib.hid HC
   have y2 := (HC.out.mem (.head _)) 2 _ rfl
   have y3 := (HC.out.mem (.head _)) 3 _ rfl
   have y4 := (HC.out.mem (.head _)) 4 _ rfl
   have t9 : a.tmps[9]?.getD undef = .pointer (some ⟨b, 2, none⟩) := Reg.slot_val (hd 3 (by kernel_rfl) 9 rfl)
   go_simp
   exact hK _ _ rfl HC.out (Below.refl _ _)
  ·rintro a w1 HC hx hd K hK
   replace HC := Lib.hid HC
   have t3 : a.tmps[3]?.getD undef = .pointer (some ⟨b, 0, none⟩) := Reg.slot_val (hx 3 (by kernel_rfl))
   go_simp
   exact hK _ _ rfl HC.out (Below.refl _ _)
  ·rintro a w1 HC hx hd K hK
   replace HC := Lib.hid HC
   have y1 := (HC.out.mem (.head _)) 1 _ rfl
   have t11 : a.tmps[11]?.getD undef = .pointer (some ⟨b, 1, none⟩) := Reg.slot_val (hd 5 (by kernel_rfl) 11 rfl)
   go_simp
   exact hK _ _ rfl HC.out (Below.refl _ _)
  ·rintro a w1 HC hx hd K hK
   replace HC := Lib.hid HC
   have t10 : a.tmps[10]?.getD undef = vv ra rb rc := Reg.slot_val (hd 4 (by kernel_rfl) 10 rfl)
   have t12 : a.tmps[12]?.getD undef = .float .f32 x := Reg.slot_val (hd 6 (by kernel_rfl) 12 rfl)
   go_simp
   refine (impl_ScaleVector _ _ _ _ _ _ _ _ _ FF.out.1 FF.out.2.1 FF.out.2.2 FX.out).mono ?_
   rintro en w2 ⟨p', q', r', rfl, fp', fq', fr', hB2⟩
   exact hK _ _ ⟨p', q', r', rfl, fp', fq', fr'⟩ (HC.out.call hB2) hB2
  ·rintro a w1 HC hx hd K hK
   replace HC := Lib.hid HC
   have t6 : a.tmps[6]?.getD undef = .func (.func 170) #[] #[.pointer (some ⟨fb, 0, none⟩)] := Reg.slot_val (hd 0 (by kernel_rfl) 6 rfl)
   have t8 : a.tmps[8]?.getD undef = .int .i64 (k : Int) := Reg.slot_val (hd 2 (by kernel_rfl) 8 rfl)
   obtain ⟨p13, q13, r13, g13, f13⟩ := hd 7 (by kernel_rfl) 13 rfl
   have t13 := Reg.slot_val g13
   clear g13
   go_simp
   refine (add_force w0 _ fb g k n _ _ _ X (scaleC f wc) w1 HC.out HM.out HX.out HKn.out hx9 f13).mono ?_
   rintro en w2 ⟨rfl, hS⟩
   exact hK _ _ trivial hS
 ·rintro f' W3 hD hT
  have hS := (hD (fun j hj => by revert j; decide)).1
  simp only [Reg.mixL, Nat.zero_add, Nat.reduceAdd]
  have H3 := Lib.hid hS.drop
  clear hD hT hS
  go_wp2
  refine ⟨rfl, .tuple #[], ?_, rfl, H3.out⟩
  first | rfl | (simp [results, Tryz.results263, go_sem]; done) | (simp [results, Tryz.results263, go_sem]; rfl)
set_option maxHeartbeats 8000000 in
theorem spring_forces (w0 : World) (L : List (Nat × List Value)) (fb g n : Nat) (X : List C3) (w : World) (h : St w0 L g X w) (hm : (fb, [Value.slice (some ⟨g, 0, none⟩) n n]) ∈ L) (hn : X.length = n) (hx9 : n ≤ 1048576) (i j : Nat) (hi : i < n) (hj : j < n) (lc sc : Option Nat) (x y : Nat) (pa : Option Addr) (pc : Nat) (cs : List C3) (hv : IsVs w0 pa n pc cs) (fx : FV .f32 x lc) (fy : FV .f32 y sc) :
  Calls Tryz.prog 248 #[sv (i : Int) (j : Int) x y, .slice pa n pc, .func (.func 170) #[] #[.pointer (some ⟨fb, 0, none⟩)]] w fun e w' => e = .returned (.tuple #[]) ∧ St w0 L g (addAt (addAt X i (scaleC (wayC cs (i : Int) (j : Int)) (perC (wayC cs (i : Int) (j : Int)) lc sc))) j (scaleC (wayC cs (i : Int) (j : Int)) (negC32 (perC (wayC cs (i : Int) (j : Int)) lc sc)))) w' := by
 have u := Tryz.underlying27
 have uv := Tryz.underlying42
 have us := Tryz.underlying166
 have S1' : St w0 ((w.heap.size, [.int .i64 (i : Int), .int .i64 (j : Int), .float .f32 x, .float .f32 y]) :: L) g X (w.alloc (.cells #[.int .i64 (i : Int), .int .i64 (j : Int), .float .f32 x, .float .f32 y] 166)) := h.box
 have S1 := Lib.hid S1'
 have HM1 := Lib.hid (List.Mem.tail (w.heap.size, ([.int .i64 (i : Int), .int .i64 (j : Int), .float .f32 x, .float .f32 y] : List Value)) hm)
 have HX := Lib.hid hn
 have HI := Lib.hid hi
 have HJ := Lib.hid hj
 have JW := Lib.hid (fun (w1 : World) (h1 : IsVs w1 pa n pc cs) => impl_way (i : Int) (j : Int) x y pa n pc cs w1 h1 (decide_eq_true ⟨by omega, by omega⟩) (decide_eq_true ⟨by omega, by omega⟩))
 have JP := Lib.hid (fun (p q r : Nat) (w1 : World) (hD : FV3 p q r (wayC cs (i : Int) (j : Int))) => impl_pullPer (i : Int) (j : Int) x y p q r lc sc (wayC cs (i : Int) (j : Int)) w1 fx fy hD)
 have HV := Lib.hid hv
 generalize wayC cs (i : Int) (j : Int) = D at *
 generalize perC D lc sc = PC at *
 clear h hm S1' fx fy hn hi hj hv
 go_enter Tryz.func248, Tryz.ntmps248
 have a0 := (S1.out.mem (.head _)) 0 _ rfl
 have a1 := (S1.out.mem (.head _)) 1 _ rfl
 have a2 := (S1.out.mem (.head _)) 2 _ rfl
 have a3 := (S1.out.mem (.head _)) 3 _ rfl
 go_wp2_with fail
 clear a0 a1 a2 a3
 generalize (w.alloc (.cells #[.int .i64 (i : Int), .int .i64 (j : Int), .float .f32 x, .float .f32 y] 166)) = W at *
 generalize w.heap.size = b at *
 refine (JW.out W (HV.out.below S1.out.bel)).mono ?_
 rintro e w1 ⟨dp, dq, dr, rfl, hD, hB1⟩
 have S2' : St w0 ((w1.heap.size, [.float .f32 dp, .float .f32 dq, .float .f32 dr]) :: (b, [.int .i64 (i : Int), .int .i64 (j : Int), .float .f32 x, .float .f32 y]) :: L) g X (w1.alloc (.cells #[.float .f32 dp, .float .f32 dq, .float .f32 dr] 42)) := (S1.out.call hB1).box
 have S2 := Lib.hid S2'
 have HM := Lib.hid (List.Mem.tail (w1.heap.size, [Value.float .f32 dp, .float .f32 dq, .float .f32 dr]) HM1.out)
 have HD := Lib.hid hD
 clear hB1 S2' hD
 have a0 := (S2.out.mem (.tail _ (.head _))) 0 _ rfl
 have a1 := (S2.out.mem (.tail _ (.head _))) 1 _ rfl
 have a2 := (S2.out.mem (.tail _ (.head _))) 2 _ rfl
 have a3 := (S2.out.mem (.tail _ (.head _))) 3 _ rfl
 have d0 := (S2.out.mem (.head _)) 0 _ rfl
 have d1 := (S2.out.mem (.head _)) 1 _ rfl
 have d2 := (S2.out.mem (.head _)) 2 _ rfl
 go_wp2_with fail
 clear a0 a1 a2 a3 d0 d1 d2
 generalize (w1.alloc (.cells #[.float .f32 dp, .float .f32 dq, .float .f32 dr] 42)) = W2 at *
 generalize w1.heap.size = V at *
 refine (JP.out dp dq dr W2 HD.out).mono ?_
 rintro e w3 ⟨gv, rfl, hG, hB3⟩
 have S3 := Lib.hid (S2.out.call hB3)
 have HG := Lib.hid hG
 have HKn := HI
 clear hB3 hG S2
 go_wp2_with fail
 refine Reg5.wp_region_mix (m := 6) (C := St w0 ((V, [.float .f32 dp, .float .f32 dq, .float .f32 dr]) :: (b, [.int .i64 (i : Int), .int .i64 (j : Int), .float .f32 x, .float .f32 y]) :: L) g X) (D := St w0 ((V, [.float .f32 dp, .float .f32 dq, .float .f32 dr]) :: (b, [.int .i64 (i : Int), .int .i64 (j : Int), .float .f32 x, .float .f32 y]) :: L) g (addAt X i (scaleC D PC))) (G := fun w1 w2 => Below w1.heap.size w1 w2) (G' := fun w1 w2 => w2 = w1) (R := fun i' v w' => match i' with | 0 => v = .func (.func 170) #[] #[.pointer (some ⟨fb, 0, none⟩)] | 1 => v = .pointer (some ⟨b, 0, none⟩) | 2 => v = .int .i64 (i : Int) | 3 => v = vv dp dq dr | 4 => v = .float .f32 gv | 5 => ∃ p q r, v = vv p q r ∧ F3 p q r (scaleC D PC) | _ => True) (T := fun _ _ _ => True) [false, false, false, false, false, false, false, false, false, false, false, false, false, false, true, true, true, true, true, true, true, false, false, false, false, false, false, false, false]
  (by kernel_rfl) (by kernel_rfl) (by kernel_rfl) (by kernel_rfl) (fun _ _ _ _ _ _ _ h => h) (fun _ _ _ _ _ _ _ h => h) (S3.out.drewN 1) ?_ ?_
 ·refine ⟨Reg5.Obl.early rfl rfl ?_, Reg5.Obl.early rfl rfl ?_, Reg5.Obl.early rfl rfl ?_, Reg5.Obl.early rfl rfl ?_, Reg5.Obl.early rfl rfl ?_, Reg5.Obl.early rfl rfl ?_, Reg5.Obl.mid rfl rfl ?_, trivial⟩
  ·rintro a w1 HC hx hd K hK
   replace HC := Lib.hid HC
   have t2 : a.tmps[2]?.getD undef = .func (.func 170) #[] #[.pointer (some ⟨fb, 0, none⟩)] := Reg.slot_val (hx 2 (by kernel_rfl))
   go_simp
   exact hK _ _ rfl HC.out (Below.refl _ _)
  ·rintro a w1 HC hx hd K hK
   replace HC := Lib.hid HC
   have t3 : a.tmps[3]?.getD undef = .pointer (some ⟨b, 0, none⟩) := Reg.slot_val (hx 3 (by kernel_rfl))
   go_simp
   exact hK _ _ rfl HC.out (Below.refl _ _)
  ·rintro a w1 HC hx hd K hK
   replace HC := Lib.hid HC
   have y0 := (HC.out.mem (.tail _ (.head _))) 0 _ rfl
   have t15 : a.tmps[15]?.getD undef = .pointer (some ⟨b, 0, none⟩) := Reg.slot_val (hd 1 (by kernel_rfl) 15 rfl)
   go_simp
   exact hK _ _ rfl HC.out (Below.refl _ _)
  ·rintro a w1 HC hx hd K hK
   replace HC := Lib.hid HC
   have x0 := (HC.out.mem (.head _)) 0 _ rfl
   have x1 := (HC.out.mem (.head _)) 1 _ rfl
   have x2 := (HC.out.mem (.head _)) 2 _ rfl
   have t6 : a.tmps[6]?.getD undef = .pointer (some ⟨V, 0, none⟩) := Reg.slot_val (hx 6 (by kernel_rfl))
   go_simp
   exact hK _ _ rfl HC.out (Below.refl _ _)
  ·rintro a w1 HC hx hd K hK
   replace HC := Lib.hid HC
   have t7 : a.tmps[7]?.getD undef = .float .f32 gv := Reg.slot_val (hx 7 (by kernel_rfl))
   go_simp
   exact hK _ _ rfl HC.out (Below.refl _ _)
  ·rintro a w1 HC hx hd K hK
   replace HC := Lib.hid HC
   have t17 : a.tmps[17]?.getD undef = vv dp dq dr := Reg.slot_val (hd 3 (by kernel_rfl) 17 rfl)
   have t18 : a.tmps[18]?.getD undef = .float .f32 gv := Reg.slot_val (hd 4 (by kernel_rfl) 18 rfl)
   go_simp
   refine (impl_ScaleVector _ _ _ _ _ _ _ _ _ HD.out.1 HD.out.2.1 HD.out.2.2 HG.out).mono ?_
   rintro en w2 ⟨p', q', r', rfl, fp', fq', fr', hB2⟩
   exact hK _ _ ⟨p', q', r', rfl, fp', fq', fr'⟩ (HC.out.call hB2) hB2
  ·rintro a w1 HC hx hd K hK
   replace HC := Lib.hid HC
   have t14 : a.tmps[14]?.getD undef = .func (.func 170) #[] #[.pointer (some ⟨fb, 0, none⟩)] := Reg.slot_val (hd 0 (by kernel_rfl) 14 rfl)
   have t16 : a.tmps[16]?.getD undef = .int .i64 (i : Int) := Reg.slot_val (hd 2 (by kernel_rfl) 16 rfl)
   obtain ⟨p19, q19, r19, g19, f19⟩ := hd 5 (by kernel_rfl) 19 rfl
   have t19 := Reg.slot_val g19
   clear g19
   go_simp
   refine (add_force w0 _ fb g i n _ _ _ X (scaleC D PC) w1 HC.out HM.out HX.out HKn.out hx9 f19).mono ?_
   rintro en w2 ⟨rfl, hS⟩
   exact hK _ _ trivial hS
 ·rintro f' W3 hD hT
  have hS := (hD (fun j hj => by revert j; decide)).1
  simp only [Reg.mixL, Nat.zero_add, Nat.reduceAdd]
  have S4 := Lib.hid hS
  have HX4 : Hid ((addAt X i (scaleC D PC)).length = n) := Lib.hid (by rw [addAt_len]; exact HX.out)
  have HKn := HJ
  clear hD hT hS S3
  generalize hX4 : addAt X i (scaleC D PC) = X4 at *
  have HX := HX4
  go_wp2_with fail
  refine Reg5.wp_region_mix (m := 7) (C := St w0 ((V, [.float .f32 dp, .float .f32 dq, .float .f32 dr]) :: (b, [.int .i64 (i : Int), .int .i64 (j : Int), .float .f32 x, .float .f32 y]) :: L) g X4) (D := St w0 ((V, [.float .f32 dp, .float .f32 dq, .float .f32 dr]) :: (b, [.int .i64 (i : Int), .int .i64 (j : Int), .float .f32 x, .float .f32 y]) :: L) g (addAt X4 j (scaleC D (negC32 PC)))) (G := fun w1 w2 => Below w1.heap.size w1 w2) (G' := fun w1 w2 => w2 = w1) (R := fun i' v w' => match i' with | 0 => v = .func (.func 170) #[] #[.pointer (some ⟨fb, 0, none⟩)] | 1 => v = .pointer (some ⟨b, 1, none⟩) | 2 => v = .int .i64 (j : Int) | 3 => v = vv dp dq dr | 4 => v = .float .f32 gv | 5 => ∃ r, v = .float .f32 r ∧ FV .f32 r (negC32 PC) | 6 => ∃ p q r, v = vv p q r ∧ F3 p q r (scaleC D (negC32 PC)) | _ => True) (T := fun _ _ _ => True) [false, false, false, false, false, false, false, false, false, false, false, false, false, false, false, false, false, false, false, false, false, true, true, true, true, true, true, true, true]
   (by kernel_rfl) (by kernel_rfl) (by kernel_rfl) (by kernel_rfl) (fun _ _ _ _ _ _ _ h => h) (fun _ _ _ _ _ _ _ h => h) (S4.out.drewN 1) ?_ ?_
  ·refine ⟨Reg5.Obl.early rfl rfl ?_, Reg5.Obl.early rfl rfl ?_, Reg5.Obl.early rfl rfl ?_, Reg5.Obl.early rfl rfl ?_, Reg5.Obl.early rfl rfl ?_, Reg5.Obl.early rfl rfl ?_, Reg5.Obl.early rfl rfl ?_, Reg5.Obl.mid rfl rfl ?_, trivial⟩
   ·rintro a w1 HC hx hd K hK
    replace HC := Lib.hid HC
    have t2 : a.tmps[2]?.getD undef = .func (.func 170) #[] #[.pointer (some ⟨fb, 0, none⟩)] := Reg.slot_val (hx 2 (by kernel_rfl))
    go_simp
    exact hK _ _ rfl HC.out (Below.refl _ _)
   ·rintro a w1 HC hx hd K hK
    replace HC := Lib.hid HC
    have t3 : a.tmps[3]?.getD undef = .pointer (some ⟨b, 0, none⟩) := Reg.slot_val (hx 3 (by kernel_rfl))
    go_simp
    exact hK _ _ rfl HC.out (Below.refl _ _)
   ·rintro a w1 HC hx hd K hK
    replace HC := Lib.hid HC
    have y1 := (HC.out.mem (.tail _ (.head _))) 1 _ rfl
    have t22 : a.tmps[22]?.getD undef = .pointer (some ⟨b, 1, none⟩) := Reg.slot_val (hd 1 (by kernel_rfl) 22 rfl)
    go_simp
    exact hK _ _ rfl HC.out (Below.refl _ _)
   ·rintro a w1 HC hx hd K hK
    replace HC := Lib.hid HC
    have x0 := (HC.out.mem (.head _)) 0 _ rfl
    have x1 := (HC.out.mem (.head _)) 1 _ rfl
    have x2 := (HC.out.mem (.head _)) 2 _ rfl
    have t6 : a.tmps[6]?.getD undef = .pointer (some ⟨V, 0, none⟩) := Reg.slot_val (hx 6 (by kernel_rfl))
    go_simp
    exact hK _ _ rfl HC.out (Below.refl _ _)
   ·rintro a w1 HC hx hd K hK
    replace HC := Lib.hid HC
    have t7 : a.tmps[7]?.getD undef = .float .f32 gv := Reg.slot_val (hx 7 (by kernel_rfl))
    go_simp
    exact hK _ _ rfl HC.out (Below.refl _ _)
   ·rintro a w1 HC hx hd K hK
    replace HC := Lib.hid HC
    have t25 : a.tmps[25]?.getD undef = .float .f32 gv := Reg.slot_val (hd 4 (by kernel_rfl) 25 rfl)
    go_simp
    exact hK _ _ ⟨_, rfl, FV_neg32 HG.out⟩ HC.out (Below.refl _ _)
   ·rintro a w1 HC hx hd K hK
    replace HC := Lib.hid HC
    have t24 : a.tmps[24]?.getD undef = vv dp dq dr := Reg.slot_val (hd 3 (by kernel_rfl) 24 rfl)
    obtain ⟨r26, g26, f26⟩ := hd 5 (by kernel_rfl) 26 rfl
    have t26 := Reg.slot_val g26
    clear g26
    go_simp
    refine (impl_ScaleVector _ _ _ _ _ _ _ _ _ HD.out.1 HD.out.2.1 HD.out.2.2 f26).mono ?_
    rintro en w2 ⟨p', q', r', rfl, fp', fq', fr', hB2⟩
    exact hK _ _ ⟨p', q', r', rfl, fp', fq', fr'⟩ (HC.out.call hB2) hB2
   ·rintro a w1 HC hx hd K hK
    replace HC := Lib.hid HC
    have t21 : a.tmps[21]?.getD undef = .func (.func 170) #[] #[.pointer (some ⟨fb, 0, none⟩)] := Reg.slot_val (hd 0 (by kernel_rfl) 21 rfl)
    have t23 : a.tmps[23]?.getD undef = .int .i64 (j : Int) := Reg.slot_val (hd 2 (by kernel_rfl) 23 rfl)
    obtain ⟨p27, q27, r27, g27, f27⟩ := hd 6 (by kernel_rfl) 27 rfl
    have t27 := Reg.slot_val g27
    clear g27
    go_simp
    refine (add_force w0 _ fb g j n _ _ _ X4 (scaleC D (negC32 PC)) w1 HC.out HM.out HX.out HKn.out hx9 f27).mono ?_
    rintro en w2 ⟨rfl, hS⟩
    exact hK _ _ trivial hS
  ·rintro f' W5 hD hT
   have hS := (hD (fun j hj => by revert j; decide)).1
   simp only [Reg.mixL, Nat.zero_add, Nat.reduceAdd]
   have H5 := Lib.hid hS.drop.drop
   clear hD hT hS
   go_wp2
   refine ⟨rfl, .tuple #[], ?_, rfl, by rw [hX4]; exact H5.out⟩
   first | rfl | (simp [results, Tryz.results248, go_sem]; done) | (simp [results, Tryz.results248, go_sem]; rfl)
end Go.Proofs.YtabccmobmppdnaaGreat
namespace Go.Proofs.YtabccmobmppdnaaGreat
open Go Fk Go.RowKit
set_option linter.unusedVariables false
set_option maxRecDepth 16000
theorem St.setB {w w1 : World} {L : List (Nat × List Value)} {g b : Nat} {X : List C3} {l : List Value} (h : St w ((b, l) :: L) g X w1) (hw : w.heap.size ≤ b) (hd : ∀ x ∈ L, x.1 < b) (i : Nat) (u : Value) : St w ((b, l.set i u) :: L) g X (w1.setCell ⟨b, i, none⟩ u) := by
 have hg : b ≠ g := (h.2.1 b l (.head _)).2.2.2
 refine ⟨h.1.setCell hw _, fun c m hm => ?_, h.2.2.1, h.2.2.2.far hg⟩
 rcases List.mem_cons.1 hm with e | hm
 ·cases e
  exact ⟨(h.mem (.head _)).set i u, fun j => by simp; exact h.free (.head _) j, by simpa using (h.2.1 b l (.head _)).2.2.1, hg⟩
 ·have hne : c < b := hd _ hm
  exact ⟨(h.mem (.tail _ hm)).far (by show b ≠ c; omega), fun j => by simp; exact h.free (.tail _ hm) j, by simpa using (h.2.1 c m (.tail _ hm)).2.2.1, (h.2.1 c m (.tail _ hm)).2.2.2⟩
set_option maxHeartbeats 8000000 in
theorem film_pull (w0 : World) (L : List (Nat × List Value)) (fb g n : Nat) (X : List C3) (w : World) (h : St w0 L g X w) (hm : (fb, [Value.slice (some ⟨g, 0, none⟩) n n]) ∈ L) (hn : X.length = n) (hx9 : n ≤ 1048576) (i j k b4 b5 b6 b7 nx ny nz per : Nat) (hi : i < n) (hj : j < n) (hk : k < n) (N : C3) (P : Option Nat) (pa : Option Addr) (pc : Nat) (cs : List C3) (hv : IsVs w0 pa n pc cs)
  (h4 : (b4, [Value.slice pa n pc]) ∈ L) (h5 : (b5, [.func (.func 170) #[] #[.pointer (some ⟨fb, 0, none⟩)]]) ∈ L) (h6 : (b6, [Value.float .f32 nx, .float .f32 ny, .float .f32 nz]) ∈ L) (h7 : (b7, [Value.float .f32 per]) ∈ L) (hN : F3 nx ny nz N) (hP : FV .f32 per P) :
  Calls Tryz.prog 257 #[.int .i64 (k : Int), .agg #[.int .i64 (i : Int), .int .i64 (j : Int)], .pointer (some ⟨b4, 0, none⟩), .pointer (some ⟨b5, 0, none⟩), .pointer (some ⟨b6, 0, none⟩), .pointer (some ⟨b7, 0, none⟩)] w fun e w' => e = .returned (.tuple #[]) ∧ St w0 L g (addAt X k (scaleC (crossC N (lessC (cs.getD j c0) (cs.getD i c0))) P)) w' := by
 have u := Tryz.underlying27
 have uv := Tryz.underlying42
 have us := Tryz.underlying241
 have S1' : St w0 ((w.heap.size, [.int .i64 (i : Int), .int .i64 (j : Int)]) :: L) g X (w.alloc (.cells #[.int .i64 (i : Int), .int .i64 (j : Int)] 241)) := h.box
 have S1 := Lib.hid S1'
 have HM0 := Lib.hid hm
 have H4 := Lib.hid h4
 have H5 := Lib.hid h5
 have H6 := Lib.hid h6
 have H7 := Lib.hid h7
 have HX := Lib.hid hn
 have HKn := Lib.hid hk
 have HN := Lib.hid hN
 have HP := Lib.hid hP
 obtain ⟨pb, po, rfl, hcell⟩ := hv.some (by omega)
 obtain ⟨p0, q0, r0, d00, d01, d02, f00, f01, f02⟩ := hcell i hi
 obtain ⟨p1, q1, r1, d10, d11, d12, f10, f11, f12⟩ := hcell j hj
 have D0 := Lib.hid (And.intro d00 (And.intro d01 d02))
 have D1 := Lib.hid (And.intro d10 (And.intro d11 d12))
 have F0 := Lib.hid (And.intro f00 (And.intro f01 f02))
 have F1 := Lib.hid (And.intro f10 (And.intro f11 f12))
 have hi0 : (0 : Int) ≤ (i : Int) := by omega
 have hi1 : (i : Int) < (n : Int) := by omega
 have hj0 : (0 : Int) ≤ (j : Int) := by omega
 have hj1 : (j : Int) < (n : Int) := by omega
 clear h hm S1' hn hi hj hk hv h4 h5 h6 h7 hN hP hcell d00 d01 d02 d10 d11 d12 f00 f01 f02 f10 f11 f12
 go_enter Tryz.func257, Tryz.ntmps257
 go_wp2_with fail
 generalize (w.alloc (.cells #[.int .i64 (i : Int), .int .i64 (j : Int)] 241)) = W at *
 generalize w.heap.size = b at *
 refine Reg5.wp_region_mix (m := 12) (C := St w0 ((b, [.int .i64 (i : Int), .int .i64 (j : Int)]) :: L) g X) (D := fun _ => True) (G := fun w1 w2 => Below w1.heap.size w1 w2) (G' := fun w1 w2 => w2 = w1) (R := fun i' v w' => match i' with | 0 => v = .slice (some ⟨pb, po, none⟩) n pc | 1 => v = .pointer (some ⟨b, 1, none⟩) | 2 => v = .int .i64 (j : Int) | 3 => v = .pointer (some ⟨pb, po + j * 3, none⟩) | 4 => v = vv p1 q1 r1 | 5 => v = .slice (some ⟨pb, po, none⟩) n pc | 6 => v = .pointer (some ⟨b, 0, none⟩) | 7 => v = .int .i64 (i : Int) | 8 => v = .pointer (some ⟨pb, po + i * 3, none⟩) | 9 => v = vv p0 q0 r0 | 10 => ∃ p q r, v = vv p q r ∧ F3 p q r (lessC (cs.getD j c0) (cs.getD i c0)) | 11 => ∃ b9, v = .pointer (some ⟨b9, 0, none⟩) ∧ St w0 ((b9, [.float .f32 0, .float .f32 0, .float .f32 0]) :: (b, [.int .i64 (i : Int), .int .i64 (j : Int)]) :: L) g X w' ∧ w0.heap.size ≤ b9 ∧ ∀ x9 ∈ ((b, [.int .i64 (i : Int), .int .i64 (j : Int)]) :: L), x9.1 < b9 | _ => True) (T := fun _ a w' => ∃ b9 x9 y9 z9, a.tmps[8]?.getD undef = .pointer (some ⟨b9, 0, none⟩) ∧ F3 x9 y9 z9 (lessC (cs.getD j c0) (cs.getD i c0)) ∧ St w0 ((b9, [.float .f32 x9, .float .f32 y9, .float .f32 z9]) :: (b, [.int .i64 (i : Int), .int .i64 (j : Int)]) :: L) g X w') [false, false, false, false, false, false, false, false, true, true, true, true, true, true, true, true, true, true, true, true, false, false, false, false, false, false, false, false]
  (by kernel_rfl) (by kernel_rfl) (by kernel_rfl) (by kernel_rfl) ?_ (fun _ _ _ _ _ _ hG hR => by rw [hG]; exact hR) (S1.out.drewN 1) ?_ ?_
 ·intro j9 v9 wa wb hj9 _ hG hR
  match j9 with
  | 0 => exact hR
  | 1 => exact hR
  | 2 => exact hR
  | 3 => exact hR
  | 4 => exact hR
  | 5 => exact hR
  | 6 => exact hR
  | 7 => exact hR
  | 8 => exact hR
  | 9 => exact hR
  | 10 => exact hR
  | 11 => obtain ⟨b9, e9, h1, h2, h3⟩ := hR; exact ⟨b9, e9, h1.call hG, h2, h3⟩
  | _ + 12 => exact absurd hj9 (by omega)
 ·refine ⟨Reg5.Obl.early rfl rfl ?_, Reg5.Obl.early rfl rfl ?_, Reg5.Obl.early rfl rfl ?_, Reg5.Obl.early rfl rfl ?_, Reg5.Obl.early rfl rfl ?_, Reg5.Obl.early rfl rfl ?_, Reg5.Obl.early rfl rfl ?_, Reg5.Obl.early rfl rfl ?_, Reg5.Obl.early rfl rfl ?_, Reg5.Obl.early rfl rfl ?_, Reg5.Obl.early rfl rfl ?_, Reg5.Obl.early rfl rfl ?_, Reg5.Obl.fin rfl rfl ?_, trivial⟩
  ·rintro a w1 HC hx hd K hK
   replace HC := Lib.hid HC
   have y9 := (HC.out.mem (.tail _ H4.out)) 0 _ rfl
   have t2 : a.tmps[2]?.getD undef = .pointer (some ⟨b4, 0, none⟩) := Reg.slot_val (hx 2 (by kernel_rfl))
   go_simp
   exact hK _ _ rfl HC.out (Below.refl _ _)
  ·rintro a w1 HC hx hd K hK
   replace HC := Lib.hid HC
   have t7 : a.tmps[7]?.getD undef = .pointer (some ⟨b, 0, none⟩) := Reg.slot_val (hx 7 (by kernel_rfl))
   go_simp
   exact hK _ _ rfl HC.out (Below.refl _ _)
  ·rintro a w1 HC hx hd K hK
   replace HC := Lib.hid HC
   have x1 := (HC.out.mem (.head _)) 1 _ rfl
   have t10 : a.tmps[10]?.getD undef = .pointer (some ⟨b, 1, none⟩) := Reg.slot_val (hd 1 (by kernel_rfl) 10 rfl)
   go_simp
   exact hK _ _ rfl HC.out (Below.refl _ _)
  ·rintro a w1 HC hx hd K hK
   replace HC := Lib.hid HC
   have t9 : a.tmps[9]?.getD undef = .slice (some ⟨pb, po, none⟩) n pc := Reg.slot_val (hd 0 (by kernel_rfl) 9 rfl)
   have t11 : a.tmps[11]?.getD undef = .int .i64 (j : Int) := Reg.slot_val (hd 2 (by kernel_rfl) 11 rfl)
   go_simp
   exact hK _ _ rfl HC.out (Below.refl _ _)
  ·rintro a w1 HC hx hd K hK
   replace HC := Lib.hid HC
   have y0 := cell_below HC.out.bel D1.out.1
   have y1 := cell_below HC.out.bel D1.out.2.1
   have y2 := cell_below HC.out.bel D1.out.2.2
   have t12 : a.tmps[12]?.getD undef = .pointer (some ⟨pb, po + j * 3, none⟩) := Reg.slot_val (hd 3 (by kernel_rfl) 12 rfl)
   go_simp
   exact hK _ _ rfl HC.out (Below.refl _ _)
  ·rintro a w1 HC hx hd K hK
   replace HC := Lib.hid HC
   have y9 := (HC.out.mem (.tail _ H4.out)) 0 _ rfl
   have t2 : a.tmps[2]?.getD undef = .pointer (some ⟨b4, 0, none⟩) := Reg.slot_val (hx 2 (by kernel_rfl))
   go_simp
   exact hK _ _ rfl HC.out (Below.refl _ _)
  ·rintro a w1 HC hx hd K hK
   replace HC := Lib.hid HC
   have t7 : a.tmps[7]?.getD undef = .pointer (some ⟨b, 0, none⟩) := Reg.slot_val (hx 7 (by kernel_rfl))
   go_simp
   exact hK _ _ rfl HC.out (Below.refl _ _)
  ·rintro a w1 HC hx hd K hK
   replace HC := Lib.hid HC
   have x0 := (HC.out.mem (.head _)) 0 _ rfl
   have t15 : a.tmps[15]?.getD undef = .pointer (some ⟨b, 0, none⟩) := Reg.slot_val (hd 6 (by kernel_rfl) 15 rfl)
   go_simp
   exact hK _ _ rfl HC.out (Below.refl _ _)
  ·rintro a w1 HC hx hd K hK
   replace HC := Lib.hid HC
   have t14 : a.tmps[14]?.getD undef = .slice (some ⟨pb, po, none⟩) n pc := Reg.slot_val (hd 5 (by kernel_rfl) 14 rfl)
   have t16 : a.tmps[16]?.getD undef = .int .i64 (i : Int) := Reg.slot_val (hd 7 (by kernel_rfl) 16 rfl)
   go_simp
   exact hK _ _ rfl HC.out (Below.refl _ _)
  ·rintro a w1 HC hx hd K hK
   replace HC := Lib.hid HC
   have y0 := cell_below HC.out.bel D0.out.1
   have y1 := cell_below HC.out.bel D0.out.2.1
   have y2 := cell_below HC.out.bel D0.out.2.2
   have t17 : a.tmps[17]?.getD undef = .pointer (some ⟨pb, po + i * 3, none⟩) := Reg.slot_val (hd 8 (by kernel_rfl) 17 rfl)
   go_simp
   exact hK _ _ rfl HC.out (Below.refl _ _)
  ·rintro a w1 HC hx hd K hK
   replace HC := Lib.hid HC
   have t13 : a.tmps[13]?.getD undef = vv p1 q1 r1 := Reg.slot_val (hd 4 (by kernel_rfl) 13 rfl)
   have t18 : a.tmps[18]?.getD undef = vv p0 q0 r0 := Reg.slot_val (hd 9 (by kernel_rfl) 18 rfl)
   go_simp
   refine (impl_LessVectors _ _ _ _ _ _ _ _ _ _ _ _ _ F1.out.1 F1.out.2.1 F1.out.2.2 F0.out.1 F0.out.2.1 F0.out.2.2).mono ?_
   rintro en w2 ⟨p', q', r', rfl, fp', fq', fr', hB2⟩
   exact hK _ _ ⟨p', q', r', rfl, fp', fq', fr'⟩ (HC.out.call hB2) hB2
  ·rintro a w1 HC hx hd K hK
   replace HC := Lib.hid HC
   go_simp
   have hB2 : Below w1.heap.size w1 (w1.alloc (.cells #[.float .f32 0, .float .f32 0, .float .f32 0] 42)) := (Below.refl _ _).alloc (Nat.le_refl _) _
   exact hK _ _ ⟨w1.heap.size, rfl, HC.out.box, HC.out.bel.size, fun x9 hx9 => (HC.out.2.1 x9.1 x9.2 hx9).2.2.1⟩ (HC.out.call hB2) hB2
  ·rintro a w1 HC hx hd K hK
   replace HC := Lib.hid HC
   obtain ⟨b9, g8, hS9, hb9, hl9⟩ := hd 11 (by kernel_rfl) 8 rfl
   have t8 := Reg.slot_val g8
   clear g8
   have z0 := (hS9.mem (.head _)) 0 _ rfl
   have z1 := (hS9.mem (.head _)) 1 _ rfl
   have z2 := (hS9.mem (.head _)) 2 _ rfl
   have k0 := hS9.free (.head _) 0
   have k1 := hS9.free (.head _) 1
   have k2 := hS9.free (.head _) 2
   have HS9 := Lib.hid (And.intro hS9 (And.intro hb9 hl9))
   clear hS9 hb9 hl9
   obtain ⟨p19, q19, r19, g19, f19⟩ := hd 10 (by kernel_rfl) 19 rfl
   have t19 := Reg.slot_val g19
   clear g19
   go_simp
   exact hK undef _ ⟨b9, _, _, _, t8, f19, ((HS9.out.1.setB HS9.out.2.1 HS9.out.2.2 0 _).setB HS9.out.2.1 HS9.out.2.2 1 _).setB HS9.out.2.1 HS9.out.2.2 2 _⟩
 ·rintro f' W3 hD hT
  obtain ⟨V, vx, vy, vz, e8, hF8, hS⟩ := hT 12 rfl (Nat.le_of_ble_eq_true rfl)
  have g8 : f' 8 = .pointer (some ⟨V, 0, none⟩) := e8
  simp only [Reg.mixL, Nat.zero_add, Nat.reduceAdd, g8]
  have S3 := Lib.hid hS
  have HW := Lib.hid hF8
  have HM := Lib.hid (List.Mem.tail (V, [Value.float .f32 vx, .float .f32 vy, .float .f32 vz]) (List.Mem.tail (b, [Value.int .i64 (i : Int), .int .i64 (j : Int)]) HM0.out))
  clear hD hT e8 hF8 hS g8
  go_wp2_with fail
  refine Reg5.wp_region_mix (m := 7) (C := St w0 ((V, [.float .f32 vx, .float .f32 vy, .float .f32 vz]) :: (b, [.int .i64 (i : Int), .int .i64 (j : Int)]) :: L) g X) (D := St w0 ((V, [.float .f32 vx, .float .f32 vy, .float .f32 vz]) :: (b, [.int .i64 (i : Int), .int .i64 (j : Int)]) :: L) g (addAt X k (scaleC (crossC N (lessC (cs.getD j c0) (cs.getD i c0))) P))) (G := fun w1 w2 => Below w1.heap.size w1 w2) (G' := fun w1 w2 => w2 = w1) (R := fun i' v w' => match i' with | 0 => v = .func (.func 170) #[] #[.pointer (some ⟨fb, 0, none⟩)] | 1 => v = .int .i64 (k : Int) | 2 => v = vv nx ny nz | 3 => v = vv vx vy vz | 4 => ∃ p q r, v = vv p q r ∧ F3 p q r (crossC N (lessC (cs.getD j c0) (cs.getD i c0))) | 5 => v = .float .f32 per | 6 => ∃ p q r, v = vv p q r ∧ F3 p q r (scaleC (crossC N (lessC (cs.getD j c0) (cs.getD i c0))) P) | _ => True) (T := fun _ _ _ => True) [false, false, false, false, false, false, false, false, false, false, false, false, false, false, false, false, false, false, false, false, true, true, true, true, true, true, true, true]
   (by kernel_rfl) (by kernel_rfl) (by kernel_rfl) (by kernel_rfl) (fun _ _ _ _ _ _ _ h => h) (fun _ _ _ _ _ _ _ h => h) (S3.out.drewN 1) ?_ ?_
  ·refine ⟨Reg5.Obl.early rfl rfl ?_, Reg5.Obl.early rfl rfl ?_, Reg5.Obl.early rfl rfl ?_, Reg5.Obl.early rfl rfl ?_, Reg5.Obl.early rfl rfl ?_, Reg5.Obl.early rfl rfl ?_, Reg5.Obl.early rfl rfl ?_, Reg5.Obl.mid rfl rfl ?_, trivial⟩
   ·rintro a w1 HC hx hd K hK
    replace HC := Lib.hid HC
    have y9 := (HC.out.mem (.tail _ (.tail _ H5.out))) 0 _ rfl
    have t3 : a.tmps[3]?.getD undef = .pointer (some ⟨b5, 0, none⟩) := Reg.slot_val (hx 3 (by kernel_rfl))
    go_simp
    exact hK _ _ rfl HC.out (Below.refl _ _)
   ·rintro a w1 HC hx hd K hK
    replace HC := Lib.hid HC
    have t0 : a.tmps[0]?.getD undef = .int .i64 (k : Int) := Reg.slot_val (hx 0 (by kernel_rfl))
    go_simp
    exact hK _ _ rfl HC.out (Below.refl _ _)
   ·rintro a w1 HC hx hd K hK
    replace HC := Lib.hid HC
    have x0 := (HC.out.mem (.tail _ (.tail _ H6.out))) 0 _ rfl
    have x1 := (HC.out.mem (.tail _ (.tail _ H6.out))) 1 _ rfl
    have x2 := (HC.out.mem (.tail _ (.tail _ H6.out))) 2 _ rfl
    have t4 : a.tmps[4]?.getD undef = .pointer (some ⟨b6, 0, none⟩) := Reg.slot_val (hx 4 (by kernel_rfl))
    go_simp
    exact hK _ _ rfl HC.out (Below.refl _ _)
   ·rintro a w1 HC hx hd K hK
    replace HC := Lib.hid HC
    have x0 := (HC.out.mem (.head _)) 0 _ rfl
    have x1 := (HC.out.mem (.head _)) 1 _ rfl
    have x2 := (HC.out.mem (.head _)) 2 _ rfl
    have t8 : a.tmps[8]?.getD undef = .pointer (some ⟨V, 0, none⟩) := Reg.slot_val (hx 8 (by kernel_rfl))
    go_simp
    exact hK _ _ rfl HC.out (Below.refl _ _)
   ·rintro a w1 HC hx hd K hK
    replace HC := Lib.hid HC
    have t22 : a.tmps[22]?.getD undef = vv nx ny nz := Reg.slot_val (hd 2 (by kernel_rfl) 22 rfl)
    have t23 : a.tmps[23]?.getD undef = vv vx vy vz := Reg.slot_val (hd 3 (by kernel_rfl) 23 rfl)
    go_simp
    refine (impl_CrossOf _ _ _ _ _ _ _ _ _ _ _ _ _ HN.out.1 HN.out.2.1 HN.out.2.2 HW.out.1 HW.out.2.1 HW.out.2.2).mono ?_
    rintro en w2 ⟨p', q', r', rfl, fp', fq', fr', hB2⟩
    exact hK _ _ ⟨p', q', r', rfl, fp', fq', fr'⟩ (HC.out.call hB2) hB2
   ·rintro a w1 HC hx hd K hK
    replace HC := Lib.hid HC
    have y9 := (HC.out.mem (.tail _ (.tail _ H7.out))) 0 _ rfl
    have t5 : a.tmps[5]?.getD undef = .pointer (some ⟨b7, 0, none⟩) := Reg.slot_val (hx 5 (by kernel_rfl))
    go_simp
    exact hK _ _ rfl HC.out (Below.refl _ _)
   ·rintro a w1 HC hx hd K hK
    replace HC := Lib.hid HC
    obtain ⟨p24, q24, r24, g24, f24⟩ := hd 4 (by kernel_rfl) 24 rfl
    have t24 := Reg.slot_val g24
    clear g24
    have t25 : a.tmps[25]?.getD undef = .float .f32 per := Reg.slot_val (hd 5 (by kernel_rfl) 25 rfl)
    go_simp
    refine (impl_ScaleVector _ _ _ _ _ _ _ _ _ f24.1 f24.2.1 f24.2.2 HP.out).mono ?_
    rintro en w2 ⟨p', q', r', rfl, fp', fq', fr', hB2⟩
    exact hK _ _ ⟨p', q', r', rfl, fp', fq', fr'⟩ (HC.out.call hB2) hB2
   ·rintro a w1 HC hx hd K hK
    replace HC := Lib.hid HC
    have t20 : a.tmps[20]?.getD undef = .func (.func 170) #[] #[.pointer (some ⟨fb, 0, none⟩)] := Reg.slot_val (hd 0 (by kernel_rfl) 20 rfl)
    have t21 : a.tmps[21]?.getD undef = .int .i64 (k : Int) := Reg.slot_val (hd 1 (by kernel_rfl) 21 rfl)
    obtain ⟨p26, q26, r26, g26, f26⟩ := hd 6 (by kernel_rfl) 26 rfl
    have t26 := Reg.slot_val g26
    clear g26
    go_simp
    refine (add_force w0 _ fb g k n _ _ _ X (scaleC (crossC N (lessC (cs.getD j c0) (cs.getD i c0))) P) w1 HC.out HM.out HX.out HKn.out hx9 f26).mono ?_
    rintro en w2 ⟨rfl, hS⟩
    exact hK _ _ trivial hS
  ·rintro f' W5 hD hT
   have hS := (hD (fun j hj => by revert j; decide)).1
   simp only [Reg.mixL, Nat.zero_add, Nat.reduceAdd]
   have H5 := Lib.hid hS.drop.drop
   clear hD hT hS
   go_wp2
   refine ⟨rfl, .tuple #[], ?_, rfl, H5.out⟩
   first | rfl | (simp [results, Tryz.results257, go_sem]; done) | (simp [results, Tryz.results257, go_sem]; rfl)
end Go.Proofs.YtabccmobmppdnaaGreat
namespace Go.Proofs.YtabccmobmppdnaaGreat
open Go Fk Go.RowKit
set_option linter.unusedVariables false
set_option maxRecDepth 16000
set_option maxHeartbeats 16000000 in
theorem film_forces (w0 : World) (L : List (Nat × List Value)) (fb g n : Nat) (X : List C3) (w : World) (h : St w0 L g X w) (hm : (fb, [Value.slice (some ⟨g, 0, none⟩) n n]) ∈ L) (hn : X.length = n) (hx9 : n ≤ 1048576) (t : List Int) (m0 m1 m2 : Nat) (e0 : t.getD 0 0 = m0) (e1 : t.getD 1 0 = m1) (e2 : t.getD 2 0 = m2) (ht : triB n t = true) (fc : Option Nat) (x : Nat) (pa : Option Addr) (pc : Nat) (cs : List C3) (hv : IsVs w0 pa n pc cs) (fx : FV .f32 x fc) :
  Calls Tryz.prog 254 #[.agg #[.int .i64 (m0 : Int), .int .i64 (m1 : Int), .int .i64 (m2 : Int), .float .f32 x], .slice pa n pc, .func (.func 170) #[] #[.pointer (some ⟨fb, 0, none⟩)]] w fun e w' => e = .returned (.tuple #[]) ∧ St w0 L g (addAt (addAt (addAt X m0 (scaleC (crossC (normalC cs t) (lessC (cs.getD m2 c0) (cs.getD m1 c0))) (gainC (negC32 (fop .mul .f32 halfC fc)) (longC (normalC cs t))))) m1 (scaleC (crossC (normalC cs t) (lessC (cs.getD m0 c0) (cs.getD m2 c0))) (gainC (negC32 (fop .mul .f32 halfC fc)) (longC (normalC cs t))))) m2 (scaleC (crossC (normalC cs t) (lessC (cs.getD m1 c0) (cs.getD m0 c0))) (gainC (negC32 (fop .mul .f32 halfC fc)) (longC (normalC cs t))))) w' := by
 have u := Tryz.underlying27
 have uv := Tryz.underlying42
 have uf := Tryz.underlying192
 have uc := Tryz.underlying190
 have um := Tryz.underlying40
 have us := Tryz.underlying241
 have hmf : ∀ (fn : Fn) (first cap : Array Value) (w : World), (Instr.makeFunc fn first cap).run Tryz.prog w = .ok (.func fn first cap) w := fun _ _ _ _ => rfl
 obtain ⟨h3, hin⟩ := tri_parts ht
 have hi0 : m0 < n := by have := hin 0 (by decide); rw [e0] at this; omega
 have hi1 : m1 < n := by have := hin 1 (by decide); rw [e1] at this; omega
 have hi2 : m2 < n := by have := hin 2 (by decide); rw [e2] at this; omega
 have JN := Lib.hid (fun (w1 : World) (h1 : IsVs w1 pa n pc cs) => mesh_normal pa none n pc 0 0 cs t w1 h1 ht)
 rw [e0, e1, e2] at JN
 generalize normalC cs t = N at *
 have S1' : St w0 ((w.heap.size + 1 + 1, [.func (.func 170) #[] #[.pointer (some ⟨fb, 0, none⟩)]]) :: (w.heap.size + 1, [.slice pa n pc]) :: (w.heap.size, [.int .i64 (m0 : Int), .int .i64 (m1 : Int), .int .i64 (m2 : Int), .float .f32 x]) :: L) g X (((w.alloc (.cells #[.int .i64 (m0 : Int), .int .i64 (m1 : Int), .int .i64 (m2 : Int), .float .f32 x] 192)).alloc (.cells #[.slice pa n pc] 36)).alloc (.cells #[.func (.func 170) #[] #[.pointer (some ⟨fb, 0, none⟩)]] 303)) := by
  have := ((h.box (vs := [.int .i64 (m0 : Int), .int .i64 (m1 : Int), .int .i64 (m2 : Int), .float .f32 x]) (t := 192)).box (vs := [.slice pa n pc]) (t := 36)).box (vs := [.func (.func 170) #[] #[.pointer (some ⟨fb, 0, none⟩)]]) (t := 303)
  simpa using this
 have S1 := Lib.hid S1'
 have HM1 := Lib.hid (List.Mem.tail (w.heap.size + 1 + 1, ([.func (.func 170) #[] #[.pointer (some ⟨fb, 0, none⟩)]] : List Value)) (List.Mem.tail (w.heap.size + 1, ([.slice pa n pc] : List Value)) (List.Mem.tail (w.heap.size, ([.int .i64 (m0 : Int), .int .i64 (m1 : Int), .int .i64 (m2 : Int), .float .f32 x] : List Value)) hm)))
 have HX := Lib.hid hn
 have HI := Lib.hid (And.intro hi0 (And.intro hi1 hi2))
 have HV := Lib.hid hv
 have FX := Lib.hid fx
 clear h hm S1' fx hn hv h3 hin ht e0 e1 e2 hi0 hi1 hi2
 go_enter Tryz.func254, Tryz.ntmps254
 have a0 := (S1.out.mem (.tail _ (.tail _ (.head _)))) 0 _ rfl
 have a1 := (S1.out.mem (.tail _ (.tail _ (.head _)))) 1 _ rfl
 have a2 := (S1.out.mem (.tail _ (.tail _ (.head _)))) 2 _ rfl
 have a3 := (S1.out.mem (.tail _ (.tail _ (.head _)))) 3 _ rfl
 have a4 := (S1.out.mem (.tail _ (.head _))) 0 _ rfl
 go_wp2_with fail
 clear a0 a1 a2 a3 a4
 generalize (((w.alloc (.cells #[.int .i64 (m0 : Int), .int .i64 (m1 : Int), .int .i64 (m2 : Int), .float .f32 x] 192)).alloc (.cells #[.slice pa n pc] 36)).alloc (.cells #[.func (.func 170) #[] #[.pointer (some ⟨fb, 0, none⟩)]] 303)) = W at *
 generalize hb3 : w.heap.size = b3 at *
 generalize hb4 : b3 + 1 = b4 at *
 generalize hb5 : b4 + 1 = b5 at *
 clear hb3 hb4 hb5
 refine (JN.out W (HV.out.below S1.out.bel)).mono ?_
 rintro e w1 ⟨nx, ny, nz, rfl, n0, n1, n2, hB1⟩
 have hN : F3 nx ny nz N := ⟨n0, n1, n2⟩
 have S2' : St w0 ((w1.heap.size, [.float .f32 nx, .float .f32 ny, .float .f32 nz]) :: (b5, [.func (.func 170) #[] #[.pointer (some ⟨fb, 0, none⟩)]]) :: (b4, [.slice pa n pc]) :: (b3, [.int .i64 (m0 : Int), .int .i64 (m1 : Int), .int .i64 (m2 : Int), .float .f32 x]) :: L) g X (w1.alloc (.cells #[.float .f32 nx, .float .f32 ny, .float .f32 nz] 42)) := (S1.out.call hB1).box
 have S2 := Lib.hid S2'
 have HM2 := Lib.hid (List.Mem.tail (w1.heap.size, [Value.float .f32 nx, .float .f32 ny, .float .f32 nz]) HM1.out)
 have HN := Lib.hid hN
 clear hB1 S2' hN n0 n1 n2 S1
 go_wp2_with fail
 generalize (w1.alloc (.cells #[.float .f32 nx, .float .f32 ny, .float .f32 nz] 42)) = W2 at *
 generalize w1.heap.size = V at *
 refine Reg5.wp_region_mix (m := 8) (C := St w0 ((V, [.float .f32 nx, .float .f32 ny, .float .f32 nz]) :: (b5, [.func (.func 170) #[] #[.pointer (some ⟨fb, 0, none⟩)]]) :: (b4, [.slice pa n pc]) :: (b3, [.int .i64 (m0 : Int), .int .i64 (m1 : Int), .int .i64 (m2 : Int), .float .f32 x]) :: L) g X) (D := fun _ => True) (G := fun w1 w2 => Below w1.heap.size w1 w2) (G' := fun w1 w2 => w2 = w1) (R := fun i' v w' => match i' with | 0 => v = .pointer (some ⟨b3, 3, none⟩) | 1 => v = .float .f32 x | 2 => ∃ r, v = .float .f32 r ∧ FV .f32 r (fop .mul .f32 halfC fc) | 3 => ∃ r, v = .float .f32 r ∧ FV .f32 r (negC32 (fop .mul .f32 halfC fc)) | 4 => v = vv nx ny nz | 5 => ∃ r, v = .float .f32 r ∧ FV .f32 r (longC N) | 6 => ∃ r, v = .float .f32 r ∧ FV .f32 r (gainC (negC32 (fop .mul .f32 halfC fc)) (longC N)) | 7 => ∃ b9, v = .pointer (some ⟨b9, 0, none⟩) ∧ St w0 ((b9, [.float .f32 0]) :: (V, [.float .f32 nx, .float .f32 ny, .float .f32 nz]) :: (b5, [.func (.func 170) #[] #[.pointer (some ⟨fb, 0, none⟩)]]) :: (b4, [.slice pa n pc]) :: (b3, [.int .i64 (m0 : Int), .int .i64 (m1 : Int), .int .i64 (m2 : Int), .float .f32 x]) :: L) g X w' ∧ w0.heap.size ≤ b9 ∧ ∀ x9 ∈ ((V, [.float .f32 nx, .float .f32 ny, .float .f32 nz]) :: (b5, [.func (.func 170) #[] #[.pointer (some ⟨fb, 0, none⟩)]]) :: (b4, [.slice pa n pc]) :: (b3, [.int .i64 (m0 : Int), .int .i64 (m1 : Int), .int .i64 (m2 : Int), .float .f32 x]) :: L), x9.1 < b9 | _ => True) (T := fun _ a w' => ∃ b9 x9, a.tmps[7]?.getD undef = .pointer (some ⟨b9, 0, none⟩) ∧ FV .f32 x9 (gainC (negC32 (fop .mul .f32 halfC fc)) (longC N)) ∧ St w0 ((b9, [.float .f32 x9]) :: (V, [.float .f32 nx, .float .f32 ny, .float .f32 nz]) :: (b5, [.func (.func 170) #[] #[.pointer (some ⟨fb, 0, none⟩)]]) :: (b4, [.slice pa n pc]) :: (b3, [.int .i64 (m0 : Int), .int .i64 (m1 : Int), .int .i64 (m2 : Int), .float .f32 x]) :: L) g X w') [false, false, false, false, false, false, false, true, false, false, false, false, false, false, false, true, true, true, true, true, true, true, false, false, false, false, false, false, false, false, false, false, false, false, false, false, false, false, false, false, false, false, false, false, false, false, false]
  (by kernel_rfl) (by kernel_rfl) (by kernel_rfl) (by kernel_rfl) ?_ (fun _ _ _ _ _ _ hG hR => by rw [hG]; exact hR) (S2.out.drewN 1) ?_ ?_
 ·intro j9 v9 wa wb hj9 _ hG hR
  match j9 with
  | 0 => exact hR
  | 1 => exact hR
  | 2 => exact hR
  | 3 => exact hR
  | 4 => exact hR
  | 5 => exact hR
  | 6 => exact hR
  | 7 => obtain ⟨b9, e9, h1, h2, h3⟩ := hR; exact ⟨b9, e9, h1.call hG, h2, h3⟩
  | _ + 8 => exact absurd hj9 (by omega)
 ·refine ⟨Reg5.Obl.early rfl rfl ?_, Reg5.Obl.early rfl rfl ?_, Reg5.Obl.early rfl rfl ?_, Reg5.Obl.early rfl rfl ?_, Reg5.Obl.early rfl rfl ?_, Reg5.Obl.early rfl rfl ?_, Reg5.Obl.early rfl rfl ?_, Reg5.Obl.early rfl rfl ?_, Reg5.Obl.fin rfl rfl ?_, trivial⟩
  ·rintro a w1 HC hx hd K hK
   replace HC := Lib.hid HC
   have t3 : a.tmps[3]?.getD undef = .pointer (some ⟨b3, 0, none⟩) := Reg.slot_val (hx 3 (by kernel_rfl))
   go_simp
   exact hK _ _ rfl HC.out (Below.refl _ _)
  ·rintro a w1 HC hx hd K hK
   replace HC := Lib.hid HC
   have y9 := (HC.out.mem (.tail _ (.tail _ (.tail _ (.head _))))) 3 _ rfl
   have t15 : a.tmps[15]?.getD undef = .pointer (some ⟨b3, 3, none⟩) := Reg.slot_val (hd 0 (by kernel_rfl) 15 rfl)
   go_simp
   exact hK _ _ rfl HC.out (Below.refl _ _)
  ·rintro a w1 HC hx hd K hK
   replace HC := Lib.hid HC
   have t16 : a.tmps[16]?.getD undef = .float .f32 x := Reg.slot_val (hd 1 (by kernel_rfl) 16 rfl)
   go_simp
   refine (impl_product32 _ _ w1 _ _ half_FV FX.out).mono ?_
   rintro en w2 ⟨r, rfl, hr, n9, hw9⟩
   have hB2 : Below w1.heap.size w1 w2 := by rw [hw9]; exact below_drewN (Below.refl _ _) _
   clear hw9
   exact hK _ _ ⟨r, rfl, hr⟩ (HC.out.call hB2) hB2
  ·rintro a w1 HC hx hd K hK
   replace HC := Lib.hid HC
   obtain ⟨r17, g17, f17⟩ := hd 2 (by kernel_rfl) 17 rfl
   have t17 := Reg.slot_val g17
   clear g17
   go_simp
   exact hK _ _ ⟨_, rfl, FV_neg32 f17⟩ HC.out (Below.refl _ _)
  ·rintro a w1 HC hx hd K hK
   replace HC := Lib.hid HC
   have x0 := (HC.out.mem (.head _)) 0 _ rfl
   have x1 := (HC.out.mem (.head _)) 1 _ rfl
   have x2 := (HC.out.mem (.head _)) 2 _ rfl
   have t6 : a.tmps[6]?.getD undef = .pointer (some ⟨V, 0, none⟩) := Reg.slot_val (hx 6 (by kernel_rfl))
   go_simp
   exact hK _ _ rfl HC.out (Below.refl _ _)
  ·rintro a w1 HC hx hd K hK
   replace HC := Lib.hid HC
   have t19 : a.tmps[19]?.getD undef = vv nx ny nz := Reg.slot_val (hd 4 (by kernel_rfl) 19 rfl)
   go_simp
   refine (impl_LongOf _ _ _ w1 _ _ _ HN.out.1 HN.out.2.1 HN.out.2.2).mono ?_
   rintro en w2 ⟨r, rfl, hr, hB2⟩
   exact hK _ _ ⟨r, rfl, hr⟩ (HC.out.call hB2) hB2
  ·rintro a w1 HC hx hd K hK
   replace HC := Lib.hid HC
   obtain ⟨r18, g18, f18⟩ := hd 3 (by kernel_rfl) 18 rfl
   have t18 := Reg.slot_val g18
   clear g18
   obtain ⟨r20, g20, f20⟩ := hd 5 (by kernel_rfl) 20 rfl
   have t20 := Reg.slot_val g20
   clear g20
   go_simp
   refine (impl_perLength _ _ _ _ w1 f18 f20).mono ?_
   rintro en w2 ⟨r, rfl, hr, n9, hw9⟩
   have hB2 : Below w1.heap.size w1 w2 := by rw [hw9]; exact below_drewN (Below.refl _ _) _
   clear hw9
   exact hK _ _ ⟨r, rfl, hr⟩ (HC.out.call hB2) hB2
  ·rintro a w1 HC hx hd K hK
   replace HC := Lib.hid HC
   go_simp
   have hB2 : Below w1.heap.size w1 (w1.alloc (.cells #[.float .f32 0] 27)) := (Below.refl _ _).alloc (Nat.le_refl _) _
   exact hK _ _ ⟨w1.heap.size, rfl, HC.out.box, HC.out.bel.size, fun x9 hx9 => (HC.out.2.1 x9.1 x9.2 hx9).2.2.1⟩ (HC.out.call hB2) hB2
  ·rintro a w1 HC hx hd K hK
   replace HC := Lib.hid HC
   obtain ⟨b9, g7, hS9, hb9, hl9⟩ := hd 7 (by kernel_rfl) 7 rfl
   have t7 := Reg.slot_val g7
   clear g7
   have z0 := (hS9.mem (.head _)) 0 _ rfl
   have k0 := hS9.free (.head _) 0
   have HS9 := Lib.hid (And.intro hS9 (And.intro hb9 hl9))
   clear hS9 hb9 hl9
   obtain ⟨r21, g21, f21⟩ := hd 6 (by kernel_rfl) 21 rfl
   have t21 := Reg.slot_val g21
   clear g21
   go_simp
   exact hK undef _ ⟨b9, _, t7, f21, HS9.out.1.setB HS9.out.2.1 HS9.out.2.2 0 _⟩
 ·rintro f' W3 hD hT
  obtain ⟨U, px, e8, hF8, hS⟩ := hT 8 rfl (Nat.le_of_ble_eq_true rfl)
  have g8 : f' 7 = .pointer (some ⟨U, 0, none⟩) := e8
  simp only [Reg.mixL, Nat.zero_add, Nat.reduceAdd, g8]
  have S3 := Lib.hid hS
  have HPX := Lib.hid hF8
  have HM3 := Lib.hid (List.Mem.tail (U, [Value.float .f32 px]) HM2.out)
  clear hD hT e8 hF8 hS g8 S2
  generalize hPP : gainC (negC32 (fop .mul .f32 halfC fc)) (longC N) = PC at *
  have a0 := (S3.out.mem (.tail _ (.tail _ (.tail _ (.tail _ (.head _)))))) 0 _ rfl
  have a1 := (S3.out.mem (.tail _ (.tail _ (.tail _ (.tail _ (.head _)))))) 1 _ rfl
  have a2 := (S3.out.mem (.tail _ (.tail _ (.tail _ (.tail _ (.head _)))))) 2 _ rfl
  go_wp2_with fail
  clear a0 a1 a2
  refine (impl_sides (m0 : Int) (m1 : Int) (m2 : Int) W3).mono ?_
  rintro e w4 ⟨rfl, hB4⟩
  have S4' : St w0 ((w4.heap.size, [.int .i64 (m0 : Int), .int .i64 (m1 : Int), .int .i64 (m1 : Int), .int .i64 (m2 : Int), .int .i64 (m2 : Int), .int .i64 (m0 : Int)]) :: (U, [.float .f32 px]) :: (V, [.float .f32 nx, .float .f32 ny, .float .f32 nz]) :: (b5, [.func (.func 170) #[] #[.pointer (some ⟨fb, 0, none⟩)]]) :: (b4, [.slice pa n pc]) :: (b3, [.int .i64 (m0 : Int), .int .i64 (m1 : Int), .int .i64 (m2 : Int), .float .f32 x]) :: L) g X (w4.alloc (.cells #[.int .i64 (m0 : Int), .int .i64 (m1 : Int), .int .i64 (m1 : Int), .int .i64 (m2 : Int), .int .i64 (m2 : Int), .int .i64 (m0 : Int)] 242)) := (S3.out.call hB4).box
  have S4 := Lib.hid S4'
  clear hB4 S4' S3
  have a0 := (S4.out.mem (.tail _ (.tail _ (.tail _ (.tail _ (.tail _ (.head _))))))) 0 _ rfl
  have a1 := (S4.out.mem (.tail _ (.tail _ (.tail _ (.tail _ (.tail _ (.head _))))))) 1 _ rfl
  have a2 := (S4.out.mem (.tail _ (.tail _ (.tail _ (.tail _ (.tail _ (.head _))))))) 2 _ rfl
  have s0 := (S4.out.mem (.head _)) 0 _ rfl
  have s1 := (S4.out.mem (.head _)) 1 _ rfl
  have s2 := (S4.out.mem (.head _)) 2 _ rfl
  have s3 := (S4.out.mem (.head _)) 3 _ rfl
  have s4 := (S4.out.mem (.head _)) 4 _ rfl
  have s5 := (S4.out.mem (.head _)) 5 _ rfl
  go_wp2_with fail
  generalize (w4.alloc (.cells #[.int .i64 (m0 : Int), .int .i64 (m1 : Int), .int .i64 (m1 : Int), .int .i64 (m2 : Int), .int .i64 (m2 : Int), .int .i64 (m0 : Int)] 242)) = W5 at *
  generalize w4.heap.size = Z at *
  clear a0 a1 a2 s0 s1 s2 s3 s4 s5
  refine (film_pull w0 ((Z, [.int .i64 (m0 : Int), .int .i64 (m1 : Int), .int .i64 (m1 : Int), .int .i64 (m2 : Int), .int .i64 (m2 : Int), .int .i64 (m0 : Int)]) :: (U, [.float .f32 px]) :: (V, [.float .f32 nx, .float .f32 ny, .float .f32 nz]) :: (b5, [.func (.func 170) #[] #[.pointer (some ⟨fb, 0, none⟩)]]) :: (b4, [.slice pa n pc]) :: (b3, [.int .i64 (m0 : Int), .int .i64 (m1 : Int), .int .i64 (m2 : Int), .float .f32 x]) :: L) fb g n X _ S4.out (.tail _ HM3.out) HX.out hx9 m1 m2 m0 b4 b5 V U nx ny nz px HI.out.2.1 HI.out.2.2 HI.out.1 N PC pa pc cs HV.out (.tail _ (.tail _ (.tail _ (.tail _ (.head _))))) (.tail _ (.tail _ (.tail _ (.head _)))) (.tail _ (.tail _ (.head _))) (.tail _ (.head _)) HN.out HPX.out).mono ?_
  rintro e w6 ⟨rfl, hS⟩
  have S6 := Lib.hid hS
  clear hS
  generalize hX6 : addAt X m0 (scaleC (crossC (N) (lessC (cs.getD m2 c0) (cs.getD m1 c0))) (PC)) = X6 at *
  have HX6 : Hid (X6.length = n) := Lib.hid (by rw [← hX6, addAt_len]; exact HX.out)
  have a0 := (S6.out.mem (.tail _ (.tail _ (.tail _ (.tail _ (.tail _ (.head _))))))) 0 _ rfl
  have a1 := (S6.out.mem (.tail _ (.tail _ (.tail _ (.tail _ (.tail _ (.head _))))))) 1 _ rfl
  have a2 := (S6.out.mem (.tail _ (.tail _ (.tail _ (.tail _ (.tail _ (.head _))))))) 2 _ rfl
  have s0 := (S6.out.mem (.head _)) 0 _ rfl
  have s1 := (S6.out.mem (.head _)) 1 _ rfl
  have s2 := (S6.out.mem (.head _)) 2 _ rfl
  have s3 := (S6.out.mem (.head _)) 3 _ rfl
  have s4 := (S6.out.mem (.head _)) 4 _ rfl
  have s5 := (S6.out.mem (.head _)) 5 _ rfl
  go_wp2_with fail
  clear a0 a1 a2 s0 s1 s2 s3 s4 s5
  refine (film_pull w0 ((Z, [.int .i64 (m0 : Int), .int .i64 (m1 : Int), .int .i64 (m1 : Int), .int .i64 (m2 : Int), .int .i64 (m2 : Int), .int .i64 (m0 : Int)]) :: (U, [.float .f32 px]) :: (V, [.float .f32 nx, .float .f32 ny, .float .f32 nz]) :: (b5, [.func (.func 170) #[] #[.pointer (some ⟨fb, 0, none⟩)]]) :: (b4, [.slice pa n pc]) :: (b3, [.int .i64 (m0 : Int), .int .i64 (m1 : Int), .int .i64 (m2 : Int), .float .f32 x]) :: L) fb g n X6 _ S6.out (.tail _ HM3.out) HX6.out hx9 m2 m0 m1 b4 b5 V U nx ny nz px HI.out.2.2 HI.out.1 HI.out.2.1 N PC pa pc cs HV.out (.tail _ (.tail _ (.tail _ (.tail _ (.head _))))) (.tail _ (.tail _ (.tail _ (.head _)))) (.tail _ (.tail _ (.head _))) (.tail _ (.head _)) HN.out HPX.out).mono ?_
  rintro e w7 ⟨rfl, hS⟩
  have S7 := Lib.hid hS
  clear hS
  generalize hX7 : addAt X6 m1 (scaleC (crossC (N) (lessC (cs.getD m0 c0) (cs.getD m2 c0))) (PC)) = X7 at *
  have HX7 : Hid (X7.length = n) := Lib.hid (by rw [← hX7, addAt_len]; exact HX6.out)
  have a0 := (S7.out.mem (.tail _ (.tail _ (.tail _ (.tail _ (.tail _ (.head _))))))) 0 _ rfl
  have a1 := (S7.out.mem (.tail _ (.tail _ (.tail _ (.tail _ (.tail _ (.head _))))))) 1 _ rfl
  have a2 := (S7.out.mem (.tail _ (.tail _ (.tail _ (.tail _ (.tail _ (.head _))))))) 2 _ rfl
  have s0 := (S7.out.mem (.head _)) 0 _ rfl
  have s1 := (S7.out.mem (.head _)) 1 _ rfl
  have s2 := (S7.out.mem (.head _)) 2 _ rfl
  have s3 := (S7.out.mem (.head _)) 3 _ rfl
  have s4 := (S7.out.mem (.head _)) 4 _ rfl
  have s5 := (S7.out.mem (.head _)) 5 _ rfl
  go_wp2_with fail
  clear a0 a1 a2 s0 s1 s2 s3 s4 s5
  refine (film_pull w0 ((Z, [.int .i64 (m0 : Int), .int .i64 (m1 : Int), .int .i64 (m1 : Int), .int .i64 (m2 : Int), .int .i64 (m2 : Int), .int .i64 (m0 : Int)]) :: (U, [.float .f32 px]) :: (V, [.float .f32 nx, .float .f32 ny, .float .f32 nz]) :: (b5, [.func (.func 170) #[] #[.pointer (some ⟨fb, 0, none⟩)]]) :: (b4, [.slice pa n pc]) :: (b3, [.int .i64 (m0 : Int), .int .i64 (m1 : Int), .int .i64 (m2 : Int), .float .f32 x]) :: L) fb g n X7 _ S7.out (.tail _ HM3.out) HX7.out hx9 m0 m1 m2 b4 b5 V U nx ny nz px HI.out.1 HI.out.2.1 HI.out.2.2 N PC pa pc cs HV.out (.tail _ (.tail _ (.tail _ (.tail _ (.head _))))) (.tail _ (.tail _ (.tail _ (.head _)))) (.tail _ (.tail _ (.head _))) (.tail _ (.head _)) HN.out HPX.out).mono ?_
  rintro e w8 ⟨rfl, hS⟩
  have S8 := Lib.hid hS
  clear hS
  have H8 := Lib.hid S8.out.drop.drop.drop.drop.drop.drop
  clear S8
  go_wp2
  refine ⟨rfl, .tuple #[], ?_, rfl, by first | (rw [hX6, hX7]; exact H8.out) | (rw [hPP, hX6, hX7]; exact H8.out)⟩
  first | rfl | (simp [results, Tryz.results254, go_sem]; done) | (simp [results, Tryz.results254, go_sem]; rfl)
end Go.Proofs.YtabccmobmppdnaaGreat
namespace Go.Proofs.YtabccmobmppdnaaGreat
namespace Reg9
open Go Reg
set_option linter.unusedVariables false
section
variable {P : Program} {ops : Array Oper} {Q : Exit → Act → World → Prop} {md : Region.Mode}
def tail (ops : Array Oper) (m : Nat) : Bool :=
 decide (m < ops.size) && ((List.range ops.size).all fun j => decide (j < m) || slotOf ops j == none) && ((List.range ops.size).all fun j => decide (j < m) || (List.range j).all fun i => (List.range (j + 1)).any fun k => decide (i < k) && behind ops i k)
theorem tail_none {m j : Nat} (h : tail ops m = true) (hj : j < ops.size) (hm : m ≤ j) : slotOf ops j = none := by
 unfold tail at h
 simp only [Bool.and_eq_true] at h
 have := List.all_eq_true.1 h.1.2 j (List.mem_range.2 hj)
 have hn : ¬ j < m := by omega
 simpa [hn] using this
theorem tail_some {m i j : Nat} (h : tail ops m = true) (hj : j < ops.size) (hm : m ≤ j) (hi : i < j) : ∃ k, i < k ∧ k ≤ j ∧ behind ops i k = true := by
 unfold tail at h
 simp only [Bool.and_eq_true] at h
 have := List.all_eq_true.1 h.2 j (List.mem_range.2 hj)
 have hn : ¬ j < m := by omega
 simp only [hn, decide_false, Bool.false_or] at this
 have := List.all_eq_true.1 this i (List.mem_range.2 hi)
 rw [List.any_eq_true] at this
 obtain ⟨k, hk, hb⟩ := this
 rw [Bool.and_eq_true, decide_eq_true_eq] at hb
 exact ⟨k, hb.1, by have := List.mem_range.1 hk; omega, hb.2⟩
theorem tail_all {m j : Nat} {L : Array Bool} (h : tail ops m = true) (hj : j < ops.size) (hm : m ≤ j) (hcl : ∀ i j, L.getD j false = true → behind ops i j = true → L.getD i false = true) (hl : L.getD j false = true) :
  ∀ d i, j - i = d → i ≤ j → L.getD i false = true := by
 intro d
 induction d using Nat.strongRecOn with
 | ind d ih =>
  intro i hd hi
  by_cases e : i = j
  ·rw [e]; exact hl
  ·obtain ⟨k, h1, h2, h3⟩ := tail_some h hj hm (show i < j by omega)
   exact hcl i k (ih (j - k) (by omega) k rfl h2) h3
theorem tail_lt {m : Nat} (h : tail ops m = true) : m < ops.size := by
 unfold tail at h
 simp only [Bool.and_eq_true, decide_eq_true_eq] at h
 exact h.1.1
def Pair (ops : Array Oper) (D : Nat → Nat → Value → Value → Prop) (j j' : Nat) (a : Act) : Prop := ∀ d d', slotOf ops j = some d → slotOf ops j' = some d' → D j j' (a.eval (.tmp d)) (a.eval (.tmp d')) ∨ D j' j (a.eval (.tmp d')) (a.eval (.tmp d))
def Obl (P : Program) (ops : Array Oper) (m : Nat) (a0 : Act) (C : World → Prop) (G : World → World → Prop) (R : Nat → Value → World → Prop) (D : Nat → Nat → Value → Value → Prop) (T : Nat → Act → World → Prop) (Q : Exit → Act → World → Prop) (i : Nat) (o : Oper) : Prop :=
 ∀ (S : Nat → Prop) a w, (i ≤ m → C w) → (m < i → T (i - 1) a w) → (i < m → ∀ j, S j → Has ops R j a w) → (i = m → ∀ j j', behind ops j i = true → behind ops j' i = true → j ≠ j' → Pair ops D j j' a) → (∀ t, ((List.range ops.size).all fun j => slotOf ops j != some t || behind ops i j) = true → a.eval (.tmp t) = a0.eval (.tmp t)) →
  (∀ j, behind ops j i = true → i ≤ m → Has ops R j a w) →
  o.wp P a w (fun a' w' => ∃ v, a' = a.put o.dst v ∧ (i < m → (o.dst ≠ none → R i v w') ∧ (∀ j d, S j → slotOf ops j = some d → D i j v (a.eval (.tmp d))) ∧ C w' ∧ G w w') ∧ (m ≤ i → T i a w')) Q
def OblAll (P : Program) (ops : Array Oper) (m : Nat) (a0 : Act) (C : World → Prop) (G : World → World → Prop) (R : Nat → Value → World → Prop) (D : Nat → Nat → Value → Value → Prop) (T : Nat → Act → World → Prop) (Q : Exit → Act → World → Prop) : Nat → List Oper → Prop
 | _, [] => True
 | i, o :: l => Obl P ops m a0 C G R D T Q i o ∧ OblAll P ops m a0 C G R D T Q (i + 1) l
theorem OblAll.get {m : Nat} {a0 : Act} {C : World → Prop} {G : World → World → Prop} {R : Nat → Value → World → Prop} {D : Nat → Nat → Value → Value → Prop} {T : Nat → Act → World → Prop} :
  ∀ {l : List Oper} {k : Nat}, OblAll P ops m a0 C G R D T Q k l → ∀ {i : Nat} {o : Oper}, l[i]? = some o → Obl P ops m a0 C G R D T Q (k + i) o
 | [], _, _, _, _, h => by simp at h
 | _ :: _, _, h, 0, _, ho => by simp at ho; subst ho; exact h.1
 | _ :: l, k, h, i + 1, _, ho => by
  have := OblAll.get h.2 (i := i) (by simpa using ho)
  rwa [Nat.add_assoc, Nat.add_comm 1 i] at this
section
variable {m : Nat} {a0 : Act} {C : World → Prop} {G : World → World → Prop} {R : Nat → Value → World → Prop} {D : Nat → Nat → Value → Value → Prop} {T : Nat → Act → World → Prop} {i : Nat} {o : Oper}
theorem Obl.early (hi : decide (i < m) = true) (hn : o.dst.isSome = true) (hDD : ∀ j v v', D i j v v')
  (h : ∀ a w, C w → (∀ t, ((List.range ops.size).all fun j => slotOf ops j != some t || behind ops i j) = true → a.eval (.tmp t) = a0.eval (.tmp t)) →
   (∀ j, behind ops j i = true → Has ops R j a w) → ∀ K : Act → World → Prop, (∀ v w', R i v w' → C w' → G w w' → K (a.put o.dst v) w') → o.wp P a w K Q) : Obl P ops m a0 C G R D T Q i o := by
 have hi' := of_decide_eq_true hi
 intro S a w hC _ _ _ he hd
 refine h a w (hC (by omega)) he (fun j hj => hd j hj (by omega)) _ fun v w' h1 h2 h3 => ⟨v, rfl, fun _ => ⟨fun _ => h1, fun j d _ _ => hDD _ _ _, h2, h3⟩, fun hm => ?_⟩
 omega
theorem Obl.alloc (hi : decide (i < m) = true) (hn : o.dst.isSome = true)
  (h : ∀ (S : Nat → Prop) a w, C w → (∀ j, S j → Has ops R j a w) → ∀ K : Act → World → Prop, (∀ v w', R i v w' → (∀ j d, S j → slotOf ops j = some d → D i j v (a.eval (.tmp d))) → C w' → G w w' → K (a.put o.dst v) w') → o.wp P a w K Q) : Obl P ops m a0 C G R D T Q i o := by
 have hi' := of_decide_eq_true hi
 intro S a w hC _ hS _ he hd
 refine h S a w (hC (by omega)) (hS hi') _ fun v w' h1 h4 h2 h3 => ⟨v, rfl, fun _ => ⟨fun _ => h1, h4, h2, h3⟩, fun hm => ?_⟩
 omega
theorem Obl.first (hi : decide (i = m) = true)
  (h : ∀ a w, C w → (∀ t, ((List.range ops.size).all fun j => slotOf ops j != some t || behind ops i j) = true → a.eval (.tmp t) = a0.eval (.tmp t)) →
   (∀ j, behind ops j i = true → Has ops R j a w) → (∀ j j', behind ops j i = true → behind ops j' i = true → j ≠ j' → Pair ops D j j' a) → ∀ K : Act → World → Prop, (∀ v w', T i a w' → K (a.put o.dst v) w') → o.wp P a w K Q) : Obl P ops m a0 C G R D T Q i o := by
 have hi' := of_decide_eq_true hi
 intro S a w hC _ _ hP he hd
 refine h a w (hC (by omega)) he (fun j hj => hd j hj (by omega)) (hP hi') _ fun v w' h1 => ⟨v, rfl, fun hm => ?_, fun _ => h1⟩
 omega
theorem Obl.next (hi : decide (m < i) = true)
  (h : ∀ a w, T (i - 1) a w → ∀ K : Act → World → Prop, (∀ v w', T i a w' → K (a.put o.dst v) w') → o.wp P a w K Q) : Obl P ops m a0 C G R D T Q i o := by
 have hi' := of_decide_eq_true hi
 intro S a w _ hT _ _ he hd
 refine h a w (hT hi') _ fun v w' h1 => ⟨v, rfl, fun hm => ?_, fun _ => h1⟩
 omega
end
theorem wp_region_inv {id m : Nat} {a0 : Act} {w0 : World} {C : World → Prop} {G : World → World → Prop} {R : Nat → Value → World → Prop} {D : Nat → Nat → Value → Value → Prop} {T : Nat → Act → World → Prop} (hm : P.follows .mixedOrders = true) (ht : Reg2.tidy ops a0.tmps.size = true) (htl : tail ops m = true)
  (hG : ∀ j v w w', C w → G w w' → R j v w → R j v w') (hC : C { w0 with drawn := w0.drawn + 1 })
  (hO : OblAll P ops m a0 C G R D T Q 0 ops.toList)
  (hQ : ∀ a w, a.defers = a0.defers → a.tmps.size = a0.tmps.size → (∀ t, (ops.all fun o => o.dst != some t) = true → a.eval (.tmp t) = a0.eval (.tmp t)) → T (ops.size - 1) a w → Q .normal a w) :
  (Code.region id ops true).wp P Q a0 w0 := by
 unfold Reg2.tidy at ht
 simp only [Bool.and_eq_true] at ht
 obtain ⟨⟨⟨hlow, hgd⟩, hbd⟩, hdis⟩ := ht
 have slot_lt : ∀ {j d}, slotOf ops j = some d → j < ops.size := fun {j d} h => by
  unfold slotOf at h
  cases ho : ops[j]? with
  | none => rw [ho] at h; cases h
  | some o => exact (Array.getElem?_eq_some_iff.1 ho).1
 have slot_bd : ∀ {j d}, slotOf ops j = some d → d < a0.tmps.size := fun {j d} h => by
  have hj := slot_lt h
  have := Array.all_eq_true.1 hbd j hj
  unfold slotOf at h
  rw [Array.getElem?_eq_getElem hj] at h
  simp only [Option.bind_some] at h
  rw [h] at this
  simpa using this
 have slot_ne : ∀ {i j d}, slotOf ops i = some d → slotOf ops j = some d → i = j := fun {i j d} h1 h2 => by
  have a1 := slot_lt h1
  have a2 := slot_lt h2
  have := List.all_eq_true.1 (List.all_eq_true.1 hdis i (List.mem_range.2 a1)) j (List.mem_range.2 a2)
  rw [h1, h2] at this
  simpa using this
 let Inv : Array Bool → Act → World → Prop := fun listed a w => ((∀ j, m ≤ j → listed.getD j false = false) → C w ∧ (∀ j, listed.getD j false = true → Has ops R j a w) ∧ ∀ j j', listed.getD j false = true → listed.getD j' false = true → j ≠ j' → Pair ops D j j' a) ∧ a.defers = a0.defers ∧ a.tmps.size = a0.tmps.size ∧
  (∀ t, (∀ j, slotOf ops j = some t → listed.getD j false = false) → a.eval (.tmp t) = a0.eval (.tmp t)) ∧
  (∀ i j, listed.getD j false = true → behind ops i j = true → listed.getD i false = true) ∧ (∀ j, m ≤ j → j < ops.size → listed.getD j false = true → (∀ j', j < j' → j' < ops.size → listed.getD j' false = false) → T j a w)
 have msz := tail_lt htl
 refine wp_region_any hm (wpAny_inv (Inv := Inv) hlow ?_ ?_ _ _ _ _ (by simp) (by simp) ⟨fun _ => ⟨hC, ?_, ?_⟩, rfl, rfl, fun _ _ => rfl, ?_, ?_⟩)
 ·intro i listed a w hs hi ⟨hCw0, hd, hsz, hext, hcl, hT⟩
  obtain ⟨hun, o, ho, hdeps⟩ := mem_ready.1 hi
  have hilt : i < ops.size := (Array.getElem?_eq_some_iff.1 ho).1
  have hun' : listed.getD i false = false := by
   have : i < listed.size := by omega
   simp [this] at hun ⊢; exact hun
  have hg : o.guard = none := by
   have := Array.all_eq_true.1 hgd i hilt
   rw [Array.getElem?_eq_getElem hilt] at ho
   cases ho
   simpa using this
  have later : ∀ j, m ≤ j → i < j → listed.getD j false = false := fun j h1 h2 => by
   cases hl : listed.getD j false
   ·rfl
   ·exfalso
    have hjs : j < ops.size := by
     have : j < listed.size := by
      cases Nat.lt_or_ge j listed.size with
      | inl h => exact h
      | inr h => simp [Array.getD, Nat.not_lt.2 h] at hl
     omega
    have := tail_all htl hjs h1 hcl hl _ i rfl (by omega)
    rw [hun'] at this; cases this
  have hCw : i ≤ m → C w ∧ (∀ j, listed.getD j false = true → Has ops R j a w) ∧ ∀ j j', listed.getD j false = true → listed.getD j' false = true → j ≠ j' → Pair ops D j j' a := fun hle => hCw0 fun j hj => by
   by_cases e : i = j
   ·rw [← e]; exact hun'
   ·exact later j hj (by omega)
  have hTw : m < i → T (i - 1) a w := fun hlt => by
   have hb : behind ops (i - 1) i = true := by
    obtain ⟨k, h1, h2, h3⟩ := tail_some htl hilt (by omega) (show i - 1 < i by omega)
    obtain rfl : k = i := by omega
    exact h3
   have hl : listed.getD (i - 1) false = true := by
    obtain ⟨e, he, h1, h2⟩ := behind_spec hb ho
    rw [← h1]
    exact hdeps e he h2
   refine hT (i - 1) (by omega) (by omega) hl fun j' hj' _ => ?_
   by_cases e : i = j'
   ·rw [← e]; exact hun'
   ·exact later j' (by omega) (by omega)
  have hob := OblAll.get hO (i := i) (o := o) (by simpa using ho)
  rw [Nat.zero_add] at hob
  have lbeh : ∀ j, behind ops j i = true → listed.getD j false = true := fun j hj => by
   obtain ⟨e, he, h1, h2⟩ := behind_spec hj ho
   rw [← h1]
   exact hdeps e he h2
  have hwp := hob (fun j => listed.getD j false = true) a w (fun h => (hCw h).1) hTw (fun h j hj => (hCw (by omega)).2.1 j hj) (fun h j j' h1 h2 h3 => (hCw (by omega)).2.2 j j' (lbeh j h1) (lbeh j' h2) h3) (fun t htt => hext t fun j hj => by
    have := List.all_eq_true.1 htt j (List.mem_range.2 (slot_lt hj))
    rw [hj] at this
    simp at this
    cases hl : listed.getD j false
    ·rfl
    ·have := hcl i j hl this; rw [hun'] at this; cases this)
   (fun j hj hle => (hCw hle).2.1 j (lbeh j hj))
  unfold wpOp
  rw [ho]
  simp only [Region.wanted, hg, if_true]
  refine .inl (Oper.wp_mono ?_ hwp)
  rintro a' w' ⟨v, rfl, hE, hTi⟩
  have hdst : slotOf ops i = o.dst := by unfold slotOf; rw [ho]; rfl
  have keep : ∀ t, o.dst ≠ some t → (a.put o.dst v).eval (.tmp t) = a.eval (.tmp t) := fun t h => Act.eval_put (fun d hd he => h (by rw [hd]; cases he; rfl))
  have self : (listed.setIfInBounds i true).getD i false = true := by
   have hlt : i < listed.size := by omega
   simp [hlt]
  have lst : ∀ j, (listed.setIfInBounds i true).getD j false = true → j = i ∨ listed.getD j false = true := fun j h => by
   by_cases hji : i = j
   ·exact .inl hji.symm
   ·rw [getD_set_ne false hji] at h; exact .inr h
  refine ⟨fun hno => ?_, ?_, ?_, ?_, ?_, ?_⟩
  ·have him : i < m := by
    cases Nat.lt_or_ge i m with
    | inl h => exact h
    | inr h => have := hno i h; rw [self] at this; cases this
   obtain ⟨hR, hD, hC', hGw⟩ := hE him
   obtain ⟨hCw1, hhas, hpair⟩ := hCw (by omega)
   have newv : ∀ d, slotOf ops i = some d → (a.put o.dst v).eval (.tmp d) = v := fun d hjd => by
    rw [hdst] at hjd
    have hb := slot_bd (j := i) (by rw [hdst]; exact hjd)
    unfold Act.put Act.eval; rw [hjd]; simp; exact fun h => absurd (Nat.lt_of_lt_of_le hb (hsz ▸ h)) (Nat.lt_irrefl _)
   have oldv : ∀ j d, j ≠ i → slotOf ops j = some d → (a.put o.dst v).eval (.tmp d) = a.eval (.tmp d) := fun j d hji hjd => keep d (fun h => hji (slot_ne hjd (show slotOf ops i = some d by rw [hdst]; exact h)))
   refine ⟨hC', fun j hj d hjd => ?_, fun j j' hj hj' hne d d' hjd hjd' => ?_⟩
   rotate_left
   ·by_cases e1 : j = i
    ·by_cases e2 : j' = i
     ·exact absurd (e1.trans e2.symm) hne
     ·subst e1
      rw [newv d hjd, oldv j' d' e2 hjd']
      exact .inl (hD j' d' ((lst j' hj').resolve_left e2) hjd')
    ·by_cases e2 : j' = i
     ·subst e2
      rw [newv d' hjd', oldv j d e1 hjd]
      exact .inr (hD j d ((lst j hj).resolve_left e1) hjd)
     ·rw [oldv j d e1 hjd, oldv j' d' e2 hjd']
      exact hpair j j' ((lst j hj).resolve_left e1) ((lst j' hj').resolve_left e2) hne d d' hjd hjd'
   rcases lst j hj with rfl | hj'
   ·rw [hdst] at hjd
    have hb := slot_bd (j := j) (by rw [hdst]; exact hjd)
    have : (a.put o.dst v).eval (.tmp d) = v := by
     unfold Act.put Act.eval; rw [hjd]; simp; exact fun h => absurd (Nat.lt_of_lt_of_le hb (hsz ▸ h)) (Nat.lt_irrefl _)
    rw [this]; exact hR (by rw [hjd]; simp)
   ·rw [keep d (fun h => by
     have := slot_ne (show slotOf ops i = some d by rw [hdst]; exact h) hjd
     subst this; rw [hun'] at hj'; cases hj')]
    exact hG _ _ _ _ hCw1 hGw (hhas j hj' d hjd)
  ·rw [← hd]; unfold Act.put; split <;> rfl
  ·rw [← hsz]; unfold Act.put; split <;> simp
  ·intro t htt
   rw [keep t (fun h => by
    have := htt i (by rw [hdst]; exact h)
    rw [self] at this; cases this)]
   refine hext t fun j hj => ?_
   have := htt j hj
   cases hl : listed.getD j false
   ·rfl
   ·rw [getD_set_true hl] at this; cases this
  ·intro i' j hj hb
   rcases lst j hj with rfl | hj'
   ·refine getD_set_true ?_
    obtain ⟨e, he, h1, h2⟩ := behind_spec hb ho
    rw [← h1]; exact hdeps e he h2
   ·exact getD_set_true (hcl i' j hj' hb)
  ·intro j hmj hjs hj hno
   rcases lst j hj with rfl | hj'
   ·have hn : o.dst = none := by rw [← hdst]; exact tail_none htl hjs hmj
    have : a.put o.dst v = a := by rw [hn]; rfl
    rw [this]; exact hTi hmj
   ·exfalso
    rcases Nat.lt_trichotomy j i with h | h | h
    ·have := hno i h hilt; rw [self] at this; cases this
    ·subst h; rw [hun'] at hj'; cases hj'
    ·have := later j hmj h; rw [hj'] at this; cases this
 ·intro listed a w hall ⟨_, hd, hsz, hext, _, hT⟩
  refine hQ a w hd hsz (fun t htt => hext t fun j hj => ?_) (hT (ops.size - 1) (by omega) (by omega) (hall _ (by omega)) fun j' hj' hlt => by omega)
  exfalso
  have hlt := slot_lt hj
  have := Array.all_eq_true.1 htt j hlt
  unfold slotOf at hj
  rw [Array.getElem?_eq_getElem hlt] at hj
  simp only [Option.bind_some] at hj
  rw [hj] at this
  simp at this
 ·intro j hj
  simp at hj
  rw [Array.getElem?_replicate] at hj; split at hj <;> simp at hj
 ·intro j j' hj
  simp at hj
  rw [Array.getElem?_replicate] at hj; split at hj <;> simp at hj
 ·intro i j hj
  simp at hj
  rw [Array.getElem?_replicate] at hj; split at hj <;> simp at hj
 ·intro j _ _ hj
  simp at hj
  rw [Array.getElem?_replicate] at hj; split at hj <;> simp at hj
theorem wp_region_mix {id m : Nat} {a0 : Act} {w0 : World} {C : World → Prop} {G : World → World → Prop} {R : Nat → Value → World → Prop} {D : Nat → Nat → Value → Value → Prop} {T : Nat → Act → World → Prop} (mk : List Bool) (hm : P.follows .mixedOrders = true) (ht : Reg2.tidy ops a0.tmps.size = true) (htl : tail ops m = true)
  (hk : maskOk ops mk a0.tmps.size = true)
  (hG : ∀ j v w w', C w → G w w' → R j v w → R j v w') (hC : C { w0 with drawn := w0.drawn + 1 })
  (hO : OblAll P ops m a0 C G R D T Q 0 ops.toList)
  (hQ : ∀ (f : Nat → Value) w, T (ops.size - 1) ⟨(mixL f mk 0 a0.tmps.toList).toArray, a0.defers⟩ w → Q .normal ⟨(mixL f mk 0 a0.tmps.toList).toArray, a0.defers⟩ w) :
  (Code.region id ops true).wp P Q a0 w0 := by
 refine wp_region_inv hm ht htl hG hC hO fun a w hd hsz hext hT => ?_
 unfold maskOk at hk
 simp only [Bool.and_eq_true, beq_iff_eq] at hk
 obtain ⟨hml, hmk⟩ := hk
 have e : a = ⟨(mixL (fun t => a.eval (.tmp t)) mk 0 a0.tmps.toList).toArray, a0.defers⟩ := by
  rw [mixL_eq _ _ _ _ (by simpa using hml) ?_]
  ·cases a with
   | mk tmps defers =>
    simp only [Act.mk.injEq]
    refine ⟨?_, hd⟩
    apply Array.ext'
    apply List.ext_getElem?
    intro i
    simp only at hsz
    by_cases hi : i < tmps.size
    ·have hi' : i < a0.tmps.size := by omega
     simp [hi, hi', Act.eval]
    ·have hi' : ¬ i < a0.tmps.size := by omega
     simp [hi, hi']
  ·intro i hi
   have hlt : i < a0.tmps.size := by
    have := (List.getElem?_eq_some_iff.1 hi).1; omega
   have h1 := List.all_eq_true.1 hmk i (List.mem_range.2 hlt)
   have h2 : mk.getD i false = false := by simp [List.getD, hi]
   rw [h2, Bool.false_or] at h1
   have h3 := hext i h1
   rw [Nat.zero_add, h3]
   simp [Act.eval, hlt]
 rw [e] at hT ⊢
 exact hQ (fun t => a.eval (.tmp t)) w hT
end
end Reg9
end Go.Proofs.YtabccmobmppdnaaGreat
namespace Go.Proofs.YtabccmobmppdnaaGreat
open Go Fk Go.RowKit
set_option linter.unusedVariables false
set_option maxRecDepth 16000
theorem St.setN {w w1 : World} {L : List (Nat × List Value)} {g b : Nat} {X : List C3} {l : List Value} (h : St w ((b, l) :: L) g X w1) (hw : w.heap.size ≤ b) (hd : ∀ x ∈ L, x.1 ≠ b) (i : Nat) (u : Value) : St w ((b, l.set i u) :: L) g X (w1.setCell ⟨b, i, none⟩ u) := by
 have hg : b ≠ g := (h.2.1 b l (.head _)).2.2.2
 refine ⟨h.1.setCell hw _, fun c m hm => ?_, h.2.2.1, h.2.2.2.far hg⟩
 rcases List.mem_cons.1 hm with e | hm
 ·cases e
  exact ⟨(h.mem (.head _)).set i u, fun j => by simp; exact h.free (.head _) j, by simpa using (h.2.1 b l (.head _)).2.2.1, hg⟩
 ·have hne : c ≠ b := hd _ hm
  exact ⟨(h.mem (.tail _ hm)).far (Ne.symm hne), fun j => by simp; exact h.free (.tail _ hm) j, by simpa using (h.2.1 c m (.tail _ hm)).2.2.1, (h.2.1 c m (.tail _ hm)).2.2.2⟩
set_option maxHeartbeats 16000000 in
theorem hinge_forces (w0 : World) (L : List (Nat × List Value)) (fb g n : Nat) (X : List C3) (w : World) (h : St w0 L g X w) (hm : (fb, [Value.slice (some ⟨g, 0, none⟩) n n]) ∈ L) (hn : X.length = n) (hx9 : n ≤ 1048576) (m0 m1 m2 m3 : Nat) (h0 : m0 < n) (h1 : m1 < n) (h2 : m2 < n) (h3 : m3 < n) (bc : Option Nat) (x : Nat) (pa : Option Addr) (pc : Nat) (cs : List C3) (hv : IsVs w0 pa n pc cs) (fx : FV .f32 x bc) :
  Calls Tryz.prog 261 #[.agg #[.int .i64 (m0 : Int), .int .i64 (m1 : Int), .int .i64 (m2 : Int), .int .i64 (m3 : Int), .float .f32 x], .slice pa n pc, .func (.func 170) #[] #[.pointer (some ⟨fb, 0, none⟩)]] w fun e w' => e = .returned (.tuple #[]) ∧ St w0 L g (addAt (addAt (addAt (addAt X m0 (scaleC (lessC (plusC (cs.getD m2 c0) (cs.getD m3 c0)) (plusC (cs.getD m0 c0) (cs.getD m1 c0))) bc)) m1 (scaleC (lessC (plusC (cs.getD m2 c0) (cs.getD m3 c0)) (plusC (cs.getD m0 c0) (cs.getD m1 c0))) bc)) m2 (scaleC (lessC (plusC (cs.getD m2 c0) (cs.getD m3 c0)) (plusC (cs.getD m0 c0) (cs.getD m1 c0))) (negC32 bc))) m3 (scaleC (lessC (plusC (cs.getD m2 c0) (cs.getD m3 c0)) (plusC (cs.getD m0 c0) (cs.getD m1 c0))) (negC32 bc))) w' := by
 have u := Tryz.underlying27
 have uv := Tryz.underlying42
 have uf := Tryz.underlying198
 have uh := Tryz.underlying196
 have JF := Lib.hid (fun (w1 : World) (hv1 : IsVs w1 pa n pc cs) => hinge_fold m0 m1 m2 m3 pa n pc cs w1 hv1 h0 h1 h2 h3)
 generalize lessC (plusC (cs.getD m2 c0) (cs.getD m3 c0)) (plusC (cs.getD m0 c0) (cs.getD m1 c0)) = N at *
 have S1' : St w0 ((w.heap.size, [.int .i64 (m0 : Int), .int .i64 (m1 : Int), .int .i64 (m2 : Int), .int .i64 (m3 : Int), .float .f32 x]) :: L) g X (w.alloc (.cells #[.int .i64 (m0 : Int), .int .i64 (m1 : Int), .int .i64 (m2 : Int), .int .i64 (m3 : Int), .float .f32 x] 198)) := h.box
 have S1 := Lib.hid S1'
 have HM1 := Lib.hid (List.Mem.tail (w.heap.size, ([.int .i64 (m0 : Int), .int .i64 (m1 : Int), .int .i64 (m2 : Int), .int .i64 (m3 : Int), .float .f32 x] : List Value)) hm)
 have HX := Lib.hid hn
 have H0 := Lib.hid h0
 have H1 := Lib.hid h1
 have H2 := Lib.hid h2
 have H3 := Lib.hid h3
 have HV := Lib.hid hv
 have FX := Lib.hid fx
 clear h hm S1' hn h0 h1 h2 h3 hv fx
 go_enter Tryz.func261, Tryz.ntmps261
 have a0 := (S1.out.mem (.head _)) 0 _ rfl
 have a1 := (S1.out.mem (.head _)) 1 _ rfl
 have a2 := (S1.out.mem (.head _)) 2 _ rfl
 have a3 := (S1.out.mem (.head _)) 3 _ rfl
 go_wp2_with fail
 clear a0 a1 a2 a3
 generalize (w.alloc (.cells #[.int .i64 (m0 : Int), .int .i64 (m1 : Int), .int .i64 (m2 : Int), .int .i64 (m3 : Int), .float .f32 x] 198)) = W at *
 generalize w.heap.size = b3 at *
 refine (JF.out W (HV.out.below S1.out.bel)).mono ?_
 rintro e w1 ⟨nx, ny, nz, rfl, hN, hB1⟩
 have S2' : St w0 ((w1.heap.size, [.float .f32 nx, .float .f32 ny, .float .f32 nz]) :: (b3, [.int .i64 (m0 : Int), .int .i64 (m1 : Int), .int .i64 (m2 : Int), .int .i64 (m3 : Int), .float .f32 x]) :: L) g X (w1.alloc (.cells #[.float .f32 nx, .float .f32 ny, .float .f32 nz] 42)) := (S1.out.call hB1).box
 have S2 := Lib.hid S2'
 have HM2 := Lib.hid (List.Mem.tail (w1.heap.size, [Value.float .f32 nx, .float .f32 ny, .float .f32 nz]) HM1.out)
 have HN := Lib.hid hN
 clear hB1 S2' hN S1
 go_wp2_with fail
 generalize (w1.alloc (.cells #[.float .f32 nx, .float .f32 ny, .float .f32 nz] 42)) = W2 at *
 generalize w1.heap.size = V at *
 refine Reg9.wp_region_mix (m := 11) (C := St w0 ((V, [.float .f32 nx, .float .f32 ny, .float .f32 nz]) :: (b3, [.int .i64 (m0 : Int), .int .i64 (m1 : Int), .int .i64 (m2 : Int), .int .i64 (m3 : Int), .float .f32 x]) :: L) g X) (G := fun w1 w2 => Below w1.heap.size w1 w2) (R := fun i' v w' => match i' with | 0 => v = vv nx ny nz | 1 => v = .pointer (some ⟨b3, 4, none⟩) | 2 => v = .float .f32 x | 3 => ∃ p q r, v = vv p q r ∧ F3 p q r (scaleC (N) bc) | 4 => v = vv nx ny nz | 5 => v = .pointer (some ⟨b3, 4, none⟩) | 6 => v = .float .f32 x | 7 => ∃ r, v = .float .f32 r ∧ FV .f32 r (negC32 bc) | 8 => ∃ p q r, v = vv p q r ∧ F3 p q r (scaleC (N) (negC32 bc)) | 9 => ∃ b9, v = .pointer (some ⟨b9, 0, none⟩) ∧ St w0 ((b9, [.float .f32 0, .float .f32 0, .float .f32 0]) :: (V, [.float .f32 nx, .float .f32 ny, .float .f32 nz]) :: (b3, [.int .i64 (m0 : Int), .int .i64 (m1 : Int), .int .i64 (m2 : Int), .int .i64 (m3 : Int), .float .f32 x]) :: L) g X w' ∧ w0.heap.size ≤ b9 ∧ ∀ x9 ∈ ((V, [.float .f32 nx, .float .f32 ny, .float .f32 nz]) :: (b3, [.int .i64 (m0 : Int), .int .i64 (m1 : Int), .int .i64 (m2 : Int), .int .i64 (m3 : Int), .float .f32 x]) :: L), x9.1 < b9 | 10 => ∃ b9, v = .pointer (some ⟨b9, 0, none⟩) ∧ St w0 ((b9, [.float .f32 0, .float .f32 0, .float .f32 0]) :: (V, [.float .f32 nx, .float .f32 ny, .float .f32 nz]) :: (b3, [.int .i64 (m0 : Int), .int .i64 (m1 : Int), .int .i64 (m2 : Int), .int .i64 (m3 : Int), .float .f32 x]) :: L) g X w' ∧ w0.heap.size ≤ b9 ∧ ∀ x9 ∈ ((V, [.float .f32 nx, .float .f32 ny, .float .f32 nz]) :: (b3, [.int .i64 (m0 : Int), .int .i64 (m1 : Int), .int .i64 (m2 : Int), .int .i64 (m3 : Int), .float .f32 x]) :: L), x9.1 < b9 | _ => True) (D := fun j j' v v' => (j = 9 ∧ j' = 10) ∨ (j = 10 ∧ j' = 9) → v ≠ v') (T := fun i' a w' => match i' with | 11 => ∃ b7 b8 p q r p' q' r', a.tmps[7]?.getD undef = .pointer (some ⟨b7, 0, none⟩) ∧ a.tmps[8]?.getD undef = .pointer (some ⟨b8, 0, none⟩) ∧ a.tmps[21]?.getD undef = vv p' q' r' ∧ F3 p q r (scaleC (N) bc) ∧ F3 p' q' r' (scaleC (N) (negC32 bc)) ∧ b7 ≠ b8 ∧ b8 ≠ g ∧ (w0.heap.size ≤ b8 ∧ ∀ x9 ∈ ((V, [.float .f32 nx, .float .f32 ny, .float .f32 nz]) :: (b3, [.int .i64 (m0 : Int), .int .i64 (m1 : Int), .int .i64 (m2 : Int), .int .i64 (m3 : Int), .float .f32 x]) :: L), x9.1 < b8) ∧ b8 < w'.heap.size ∧ At w' b8 [.float .f32 0, .float .f32 0, .float .f32 0] ∧ Fr w' b8 ∧ St w0 ((b7, [.float .f32 p, .float .f32 q, .float .f32 r]) :: (V, [.float .f32 nx, .float .f32 ny, .float .f32 nz]) :: (b3, [.int .i64 (m0 : Int), .int .i64 (m1 : Int), .int .i64 (m2 : Int), .int .i64 (m3 : Int), .float .f32 x]) :: L) g X w' | _ => ∃ b7 b8 p q r p' q' r', a.tmps[7]?.getD undef = .pointer (some ⟨b7, 0, none⟩) ∧ a.tmps[8]?.getD undef = .pointer (some ⟨b8, 0, none⟩) ∧ F3 p q r (scaleC (N) bc) ∧ F3 p' q' r' (scaleC (N) (negC32 bc)) ∧ St w0 ((b8, [.float .f32 p', .float .f32 q', .float .f32 r']) :: (b7, [.float .f32 p, .float .f32 q, .float .f32 r]) :: (V, [.float .f32 nx, .float .f32 ny, .float .f32 nz]) :: (b3, [.int .i64 (m0 : Int), .int .i64 (m1 : Int), .int .i64 (m2 : Int), .int .i64 (m3 : Int), .float .f32 x]) :: L) g X w') [false, false, false, false, false, false, false, true, true, false, false, false, false, true, true, true, true, true, true, true, true, true, false, false, false, false, false, false, false, false, false, false, false, false, false, false, false, false, false, false, false, false, false, false, false, false]
  (by kernel_rfl) (by kernel_rfl) (by kernel_rfl) (by kernel_rfl) ?_ (S2.out.drewN 1) ?_ ?_
 ·intro j9 v9 wa wb _ hG hR
  match j9 with
  | 0 => exact hR
  | 1 => exact hR
  | 2 => exact hR
  | 3 => exact hR
  | 4 => exact hR
  | 5 => exact hR
  | 6 => exact hR
  | 7 => exact hR
  | 8 => exact hR
  | 9 => obtain ⟨b9, e9, h1, h2, h3⟩ := hR; exact ⟨b9, e9, h1.call hG, h2, h3⟩
  | 10 => obtain ⟨b9, e9, h1, h2, h3⟩ := hR; exact ⟨b9, e9, h1.call hG, h2, h3⟩
  | _ + 11 => trivial
 ·refine ⟨Reg9.Obl.early rfl rfl (fun j v v' hh => by omega) ?_, Reg9.Obl.early rfl rfl (fun j v v' hh => by omega) ?_, Reg9.Obl.early rfl rfl (fun j v v' hh => by omega) ?_, Reg9.Obl.early rfl rfl (fun j v v' hh => by omega) ?_, Reg9.Obl.early rfl rfl (fun j v v' hh => by omega) ?_, Reg9.Obl.early rfl rfl (fun j v v' hh => by omega) ?_, Reg9.Obl.early rfl rfl (fun j v v' hh => by omega) ?_, Reg9.Obl.early rfl rfl (fun j v v' hh => by omega) ?_, Reg9.Obl.early rfl rfl (fun j v v' hh => by omega) ?_, Reg9.Obl.alloc rfl rfl ?_, Reg9.Obl.alloc rfl rfl ?_, Reg9.Obl.first rfl ?_, Reg9.Obl.next rfl ?_, trivial⟩
  ·rintro a w1 HC hx hd K hK
   replace HC := Lib.hid HC
   have t6 : a.tmps[6]?.getD undef = .pointer (some ⟨V, 0, none⟩) := Reg.slot_val (hx 6 (by kernel_rfl))
   have x0 := (HC.out.mem (.head _)) 0 _ rfl
   have x1 := (HC.out.mem (.head _)) 1 _ rfl
   have x2 := (HC.out.mem (.head _)) 2 _ rfl
   go_simp
   exact hK _ _ rfl HC.out (Below.refl _ _)
  ·rintro a w1 HC hx hd K hK
   replace HC := Lib.hid HC
   have t3 : a.tmps[3]?.getD undef = .pointer (some ⟨b3, 0, none⟩) := Reg.slot_val (hx 3 (by kernel_rfl))
   go_simp
   exact hK _ _ rfl HC.out (Below.refl _ _)
  ·rintro a w1 HC hx hd K hK
   replace HC := Lib.hid HC
   have t14 : a.tmps[14]?.getD undef = .pointer (some ⟨b3, 4, none⟩) := Reg.slot_val (hd 1 (by kernel_rfl) 14 rfl)
   have y9 := (HC.out.mem (.tail _ (.head _))) 4 _ rfl
   go_simp
   exact hK _ _ rfl HC.out (Below.refl _ _)
  ·rintro a w1 HC hx hd K hK
   replace HC := Lib.hid HC
   have t13 : a.tmps[13]?.getD undef = vv nx ny nz := Reg.slot_val (hd 0 (by kernel_rfl) 13 rfl)
   have t15 : a.tmps[15]?.getD undef = .float .f32 x := Reg.slot_val (hd 2 (by kernel_rfl) 15 rfl)
   go_simp
   refine (impl_ScaleVector _ _ _ _ _ _ _ _ _ HN.out.1 HN.out.2.1 HN.out.2.2 FX.out).mono ?_
   rintro en w2 ⟨p', q', r', rfl, fp', fq', fr', hB2⟩
   exact hK _ _ ⟨p', q', r', rfl, fp', fq', fr'⟩ (HC.out.call hB2) hB2
  ·rintro a w1 HC hx hd K hK
   replace HC := Lib.hid HC
   have t6 : a.tmps[6]?.getD undef = .pointer (some ⟨V, 0, none⟩) := Reg.slot_val (hx 6 (by kernel_rfl))
   have x0 := (HC.out.mem (.head _)) 0 _ rfl
   have x1 := (HC.out.mem (.head _)) 1 _ rfl
   have x2 := (HC.out.mem (.head _)) 2 _ rfl
   go_simp
   exact hK _ _ rfl HC.out (Below.refl _ _)
  ·rintro a w1 HC hx hd K hK
   replace HC := Lib.hid HC
   have t3 : a.tmps[3]?.getD undef = .pointer (some ⟨b3, 0, none⟩) := Reg.slot_val (hx 3 (by kernel_rfl))
   go_simp
   exact hK _ _ rfl HC.out (Below.refl _ _)
  ·rintro a w1 HC hx hd K hK
   replace HC := Lib.hid HC
   have t18 : a.tmps[18]?.getD undef = .pointer (some ⟨b3, 4, none⟩) := Reg.slot_val (hd 5 (by kernel_rfl) 18 rfl)
   have y9 := (HC.out.mem (.tail _ (.head _))) 4 _ rfl
   go_simp
   exact hK _ _ rfl HC.out (Below.refl _ _)
  ·rintro a w1 HC hx hd K hK
   replace HC := Lib.hid HC
   have t19 : a.tmps[19]?.getD undef = .float .f32 x := Reg.slot_val (hd 6 (by kernel_rfl) 19 rfl)
   go_simp
   exact hK _ _ ⟨_, rfl, FV_neg32 FX.out⟩ HC.out (Below.refl _ _)
  ·rintro a w1 HC hx hd K hK
   replace HC := Lib.hid HC
   have t17 : a.tmps[17]?.getD undef = vv nx ny nz := Reg.slot_val (hd 4 (by kernel_rfl) 17 rfl)
   obtain ⟨r20, g20, f20⟩ := hd 7 (by kernel_rfl) 20 rfl
   have t20 := Reg.slot_val g20
   clear g20
   go_simp
   refine (impl_ScaleVector _ _ _ _ _ _ _ _ _ HN.out.1 HN.out.2.1 HN.out.2.2 f20).mono ?_
   rintro en w2 ⟨p', q', r', rfl, fp', fq', fr', hB2⟩
   exact hK _ _ ⟨p', q', r', rfl, fp', fq', fr'⟩ (HC.out.call hB2) hB2
  ·rintro S a w1 hC hS K hK
   have HC := Lib.hid hC
   have HS := Lib.hid hS
   clear hC hS
   go_simp
   have hB2 : Below w1.heap.size w1 (w1.alloc (.cells #[.float .f32 0, .float .f32 0, .float .f32 0] 42)) := (Below.refl _ _).alloc (Nat.le_refl _) _
   refine hK _ _ ⟨w1.heap.size, rfl, HC.out.box, HC.out.bel.size, fun x9 hx9 => (HC.out.2.1 x9.1 x9.2 hx9).2.2.1⟩ (fun j d hj hjd hh => ?_) (HC.out.call hB2) hB2
   obtain rfl : j = 10 := by omega
   have h8 : (some 8 : Option Nat) = some d := hjd
   cases h8
   obtain ⟨b9, e9, h1, _, _⟩ := HS.out _ hj _ hjd
   rw [e9]
   have hlt := (h1.2.1 _ _ (.head _)).2.2.1
   intro hh2
   simp at hh2 <;> omega
  ·rintro S a w1 hC hS K hK
   have HC := Lib.hid hC
   have HS := Lib.hid hS
   clear hC hS
   go_simp
   have hB2 : Below w1.heap.size w1 (w1.alloc (.cells #[.float .f32 0, .float .f32 0, .float .f32 0] 42)) := (Below.refl _ _).alloc (Nat.le_refl _) _
   refine hK _ _ ⟨w1.heap.size, rfl, HC.out.box, HC.out.bel.size, fun x9 hx9 => (HC.out.2.1 x9.1 x9.2 hx9).2.2.1⟩ (fun j d hj hjd hh => ?_) (HC.out.call hB2) hB2
   obtain rfl : j = 9 := by omega
   have h8 : (some 7 : Option Nat) = some d := hjd
   cases h8
   obtain ⟨b9, e9, h1, _, _⟩ := HS.out _ hj _ hjd
   rw [e9]
   have hlt := (h1.2.1 _ _ (.head _)).2.2.1
   intro hh2
   simp at hh2 <;> omega
  ·rintro a w1 hC hx hd hP K hK
   obtain ⟨b7, g7, hs7, hw7, hl7⟩ := hd 9 (by kernel_rfl) 7 rfl
   obtain ⟨b8, g8, hs8, hw8, hl8⟩ := hd 10 (by kernel_rfl) 8 rfl
   obtain ⟨p, q, r, g16, f16⟩ := hd 3 (by kernel_rfl) 16 rfl
   obtain ⟨p', q', r', g21, f21⟩ := hd 8 (by kernel_rfl) 21 rfl
   have hne : b7 ≠ b8 := by
    intro e
    rcases hP 9 10 (by kernel_rfl) (by kernel_rfl) (by decide) 7 8 rfl rfl with h | h
    ·exact h (.inl ⟨rfl, rfl⟩) (by rw [g7, g8, e])
    ·exact h (.inr ⟨rfl, rfl⟩) (by rw [g7, g8, e])
   have t7 := Reg.slot_val g7
   have t8 := Reg.slot_val g8
   have t16 := Reg.slot_val g16
   have t21 := Reg.slot_val g21
   clear g7 g8 g16 g21
   have z0 := (hs7.mem (.head _)) 0 _ rfl
   have z1 := (hs7.mem (.head _)) 1 _ rfl
   have z2 := (hs7.mem (.head _)) 2 _ rfl
   have k0 := hs7.free (.head _) 0
   have k1 := hs7.free (.head _) 1
   have k2 := hs7.free (.head _) 2
   have HS7 := Lib.hid (((hs7.setB hw7 hl7 0 (.float .f32 p)).setB hw7 hl7 1 (.float .f32 q)).setB hw7 hl7 2 (.float .f32 r))
   have HA8 := Lib.hid ((((hs8.mem (.head _)).far (a := ⟨b7, 0, none⟩) (u := .float .f32 p) hne).far (a := ⟨b7, 1, none⟩) (u := .float .f32 q) hne).far (a := ⟨b7, 2, none⟩) (u := .float .f32 r) hne)
   have HF8 : Hid (Fr w1 b8) := Lib.hid (fun j => hs8.free (.head _) j)
   have HL8 := Lib.hid (hs8.2.1 _ _ (.head _)).2.2.1
   have HW8 := Lib.hid (And.intro hw8 hl8)
   have HFF := Lib.hid (And.intro f16 f21)
   have HNE := Lib.hid (And.intro hne (hs8.2.1 _ _ (.head _)).2.2.2)
   have T8 := Lib.hid (And.intro t7 (And.intro t8 t21))
   clear hs7 hs8 hw7 hw8 hl7 hl8 f16 f21 hne hC hx hd hP t8 t21
   go_simp
   exact hK undef _ ⟨b7, b8, p, q, r, p', q', r', T8.out.1, T8.out.2.1, T8.out.2.2, HFF.out.1, HFF.out.2, HNE.out.1, HNE.out.2, HW8.out, by simpa using HL8.out, HA8.out, ((HF8.out.setC).setC).setC, HS7.out⟩
  ·rintro a w1 hT K hK
   obtain ⟨b7, b8, p, q, r, p', q', r', t7, t8, t21, f16, f21, hne, hg8, ⟨hw8, hl8⟩, hlt8, hat, hfr, hs⟩ := hT
   have z0 := hat 0 _ rfl
   have z1 := hat 1 _ rfl
   have z2 := hat 2 _ rfl
   have k0 := hfr 0
   have k1 := hfr 1
   have k2 := hfr 2
   have hs8 : St w0 ((b8, [.float .f32 0, .float .f32 0, .float .f32 0]) :: (b7, [.float .f32 p, .float .f32 q, .float .f32 r]) :: (V, [.float .f32 nx, .float .f32 ny, .float .f32 nz]) :: (b3, [.int .i64 (m0 : Int), .int .i64 (m1 : Int), .int .i64 (m2 : Int), .int .i64 (m3 : Int), .float .f32 x]) :: L) g X w1 := ⟨hs.1, fun c l hm => by
    rcases List.mem_cons.1 hm with e | hm
    ·cases e; exact ⟨hat, hfr, hlt8, hg8⟩
    ·exact hs.2.1 c l hm, hs.2.2⟩
   have hd8 : ∀ x9 ∈ ((b7, [Value.float .f32 p, .float .f32 q, .float .f32 r]) :: (V, [.float .f32 nx, .float .f32 ny, .float .f32 nz]) :: (b3, [.int .i64 (m0 : Int), .int .i64 (m1 : Int), .int .i64 (m2 : Int), .int .i64 (m3 : Int), .float .f32 x]) :: L), x9.1 ≠ b8 := fun x9 hx => by
    rcases List.mem_cons.1 hx with e | hx
    ·rw [e]; exact hne
    ·have := hl8 x9 hx; omega
   have HS8 := Lib.hid (((hs8.setN hw8 hd8 0 (.float .f32 p')).setN hw8 hd8 1 (.float .f32 q')).setN hw8 hd8 2 (.float .f32 r'))
   have T8 := Lib.hid (And.intro t7 t8)
   have HFF := Lib.hid (And.intro f16 f21)
   clear hs8 hd8 hs hw8 hl8 f16 f21 hne hg8 hlt8 hat hfr t7
   go_simp
   exact hK undef _ ⟨b7, b8, p, q, r, p', q', r', T8.out.1, T8.out.2, HFF.out.1, HFF.out.2, HS8.out⟩
 ·rintro f W3 hT
  obtain ⟨b7, b8, p, q, r, p', q', r', e7, e8, f16, f21, hS⟩ := hT
  have g7 : f 7 = .pointer (some ⟨b7, 0, none⟩) := e7
  have g8 : f 8 = .pointer (some ⟨b8, 0, none⟩) := e8
  simp only [Reg.mixL, Nat.zero_add, Nat.reduceAdd, g7, g8]
  have S4 := Lib.hid hS
  have HI7 := Lib.hid f16
  have HO8 := Lib.hid f21
  have HMf := Lib.hid (List.Mem.tail (b8, [Value.float .f32 p', .float .f32 q', .float .f32 r']) (List.Mem.tail (b7, [Value.float .f32 p, .float .f32 q, .float .f32 r]) HM2.out))
  clear e7 e8 g7 g8 hS f16 f21 S2
  generalize hRI : scaleC (N) bc = FI at *
  generalize hRO : scaleC (N) (negC32 bc) = FO at *
  have a0 := (S4.out.mem (.tail _ (.tail _ (.tail _ (.head _))))) 0 _ rfl
  have q0' := (S4.out.mem (.tail _ (.head _))) 0 _ rfl
  have q1' := (S4.out.mem (.tail _ (.head _))) 1 _ rfl
  have q2' := (S4.out.mem (.tail _ (.head _))) 2 _ rfl
  go_wp2_with fail
  clear a0 q0' q1' q2'
  refine (add_force w0 _ fb g m0 n _ _ _ X FI _ S4.out HMf.out HX.out H0.out hx9 HI7.out).mono ?_
  rintro e v0 ⟨rfl, hS⟩
  have S5 := Lib.hid hS
  clear hS
  generalize hX0 : addAt X m0 FI = X0 at *
  have HX0 : Hid (X0.length = n) := Lib.hid (by rw [← hX0, addAt_len]; exact HX.out)
  have a1 := (S5.out.mem (.tail _ (.tail _ (.tail _ (.head _))))) 1 _ rfl
  have q0' := (S5.out.mem (.tail _ (.head _))) 0 _ rfl
  have q1' := (S5.out.mem (.tail _ (.head _))) 1 _ rfl
  have q2' := (S5.out.mem (.tail _ (.head _))) 2 _ rfl
  go_wp2_with fail
  clear a1 q0' q1' q2'
  refine (add_force w0 _ fb g m1 n _ _ _ X0 FI _ S5.out HMf.out HX0.out H1.out hx9 HI7.out).mono ?_
  rintro e v1 ⟨rfl, hS⟩
  have S6 := Lib.hid hS
  clear hS
  generalize hX1 : addAt X0 m1 FI = X1 at *
  have HX1 : Hid (X1.length = n) := Lib.hid (by rw [← hX1, addAt_len]; exact HX0.out)
  have a2 := (S6.out.mem (.tail _ (.tail _ (.tail _ (.head _))))) 2 _ rfl
  have q0' := (S6.out.mem (.head _)) 0 _ rfl
  have q1' := (S6.out.mem (.head _)) 1 _ rfl
  have q2' := (S6.out.mem (.head _)) 2 _ rfl
  go_wp2_with fail
  clear a2 q0' q1' q2'
  refine (add_force w0 _ fb g m2 n _ _ _ X1 FO _ S6.out HMf.out HX1.out H2.out hx9 HO8.out).mono ?_
  rintro e v2 ⟨rfl, hS⟩
  have S7 := Lib.hid hS
  clear hS
  generalize hX2 : addAt X1 m2 FO = X2 at *
  have HX2 : Hid (X2.length = n) := Lib.hid (by rw [← hX2, addAt_len]; exact HX1.out)
  have a3 := (S7.out.mem (.tail _ (.tail _ (.tail _ (.head _))))) 3 _ rfl
  have q0' := (S7.out.mem (.head _)) 0 _ rfl
  have q1' := (S7.out.mem (.head _)) 1 _ rfl
  have q2' := (S7.out.mem (.head _)) 2 _ rfl
  go_wp2_with fail
  clear a3 q0' q1' q2'
  refine (add_force w0 _ fb g m3 n _ _ _ X2 FO _ S7.out HMf.out HX2.out H3.out hx9 HO8.out).mono ?_
  rintro e v3 ⟨rfl, hS⟩
  have S8 := Lib.hid hS
  clear hS
  have H8 := Lib.hid S8.out.drop.drop.drop.drop
  clear S8
  go_wp2
  refine ⟨rfl, .tuple #[], ?_, rfl, by rw [hRI, hRO, hX0, hX1, hX2]; exact H8.out⟩
  first | rfl | (simp [results, Tryz.results261, go_sem]; done) | (simp [results, Tryz.results261, go_sem]; rfl)
end Go.Proofs.YtabccmobmppdnaaGreat

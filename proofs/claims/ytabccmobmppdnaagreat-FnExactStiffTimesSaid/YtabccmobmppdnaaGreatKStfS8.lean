/-
Texts in one: what StfS stands on, part 8. Conditions: those of each.
-/
import Derived.Test.YtabccmobmppdnaaGreatKStfS7
-- halved
namespace Go.Proofs.YtabccmobmppdnaaGreat
open Go Fk Go.RowKit
set_option linter.unusedVariables false
set_option maxRecDepth 16000
theorem St.setB {w w1 : World} {L : List (Nat × List Value)} {g b : Nat} {X : List C3} {l : List Value} (h : St w ((b, l) :: L) g X w1) (hw : w.heap.size ≤ b) (hd : ∀ x ∈ L, x.1 < b) (i : Nat) (u : Value) : St w ((b, l.set i u) :: L) g X (w1.setCell ⟨b, i, none⟩ u) := by
 have hg : b ≠ g := (h.2.1 b l (.head _)).2.2.2
 refine ⟨h.1.setCell hw _, fun c m hm => ?_, h.2.2.1, h.2.2.2.far hg⟩
 rcases List.mem_cons.1 hm with e | hm
 ·cases e
  exact ⟨(h.mem (.head _)).set i u, fun j => by simp; exact h.free (.head _) j, by simpa using (h.2.1 b l (.head _)).2.2.1, hg⟩
 ·have hne : c < b := hd _ hm
  exact ⟨(h.mem (.tail _ hm)).far (by show b ≠ c; omega), fun j => by simp; exact h.free (.tail _ hm) j, by simpa using (h.2.1 c m (.tail _ hm)).2.2.1, (h.2.1 c m (.tail _ hm)).2.2.2⟩
set_option maxHeartbeats 8000000 in
theorem film_pull (w0 : World) (L : List (Nat × List Value)) (fb g n : Nat) (X : List C3) (w : World) (h : St w0 L g X w) (hm : (fb, [Value.slice (some ⟨g, 0, none⟩) n n]) ∈ L) (hn : X.length = n) (hx9 : n ≤ 1048576) (i j k b4 b5 b6 b7 nx ny nz per : Nat) (hi : i < n) (hj : j < n) (hk : k < n) (N : C3) (P : Option Nat) (pa : Option Addr) (pc : Nat) (cs : List C3) (hv : IsVs w0 pa n pc cs)
  (h4 : (b4, [Value.slice pa n pc]) ∈ L) (h5 : (b5, [.func (.func 170) #[] #[.pointer (some ⟨fb, 0, none⟩)]]) ∈ L) (h6 : (b6, [Value.float .f32 nx, .float .f32 ny, .float .f32 nz]) ∈ L) (h7 : (b7, [Value.float .f32 per]) ∈ L) (hN : F3 nx ny nz N) (hP : FV .f32 per P) :
  Calls Tryz.prog 257 #[.int .i64 (k : Int), .agg #[.int .i64 (i : Int), .int .i64 (j : Int)], .pointer (some ⟨b4, 0, none⟩), .pointer (some ⟨b5, 0, none⟩), .pointer (some ⟨b6, 0, none⟩), .pointer (some ⟨b7, 0, none⟩)] w fun e w' => e = .returned (.tuple #[]) ∧ St w0 L g (addAt X k (scaleC (crossC N (lessC (cs.getD j c0) (cs.getD i c0))) P)) w' := by
 have u := Tryz.underlying27
 have uv := Tryz.underlying42
 have us := Tryz.underlying241
 have S1' : St w0 ((w.heap.size, [.int .i64 (i : Int), .int .i64 (j : Int)]) :: L) g X (w.alloc (.cells #[.int .i64 (i : Int), .int .i64 (j : Int)] 241)) := h.box
 have S1 := Lib.hid S1'
 have HM0 := Lib.hid hm
 have H4 := Lib.hid h4
 have H5 := Lib.hid h5
 have H6 := Lib.hid h6
 have H7 := Lib.hid h7
 have HX := Lib.hid hn
 have HKn := Lib.hid hk
 have HN := Lib.hid hN
 have HP := Lib.hid hP
 obtain ⟨pb, po, rfl, hcell⟩ := hv.some (by omega)
 obtain ⟨p0, q0, r0, d00, d01, d02, f00, f01, f02⟩ := hcell i hi
 obtain ⟨p1, q1, r1, d10, d11, d12, f10, f11, f12⟩ := hcell j hj
 have D0 := Lib.hid (And.intro d00 (And.intro d01 d02))
 have D1 := Lib.hid (And.intro d10 (And.intro d11 d12))
 have F0 := Lib.hid (And.intro f00 (And.intro f01 f02))
 have F1 := Lib.hid (And.intro f10 (And.intro f11 f12))
 have hi0 : (0 : Int) ≤ (i : Int) := by omega
 have hi1 : (i : Int) < (n : Int) := by omega
 have hj0 : (0 : Int) ≤ (j : Int) := by omega
 have hj1 : (j : Int) < (n : Int) := by omega
 clear h hm S1' hn hi hj hk hv h4 h5 h6 h7 hN hP hcell d00 d01 d02 d10 d11 d12 f00 f01 f02 f10 f11 f12
 go_enter Tryz.func257, Tryz.ntmps257
 go_wp2_with fail
 generalize (w.alloc (.cells #[.int .i64 (i : Int), .int .i64 (j : Int)] 241)) = W at *
 generalize w.heap.size = b at *
 refine Reg5.wp_region_mix (m := 12) (C := St w0 ((b, [.int .i64 (i : Int), .int .i64 (j : Int)]) :: L) g X) (D := fun _ => True) (G := fun w1 w2 => Below w1.heap.size w1 w2) (G' := fun w1 w2 => w2 = w1) (R := fun i' v w' => match i' with | 0 => v = .slice (some ⟨pb, po, none⟩) n pc | 1 => v = .pointer (some ⟨b, 1, none⟩) | 2 => v = .int .i64 (j : Int) | 3 => v = .pointer (some ⟨pb, po + j * 3, none⟩) | 4 => v = vv p1 q1 r1 | 5 => v = .slice (some ⟨pb, po, none⟩) n pc | 6 => v = .pointer (some ⟨b, 0, none⟩) | 7 => v = .int .i64 (i : Int) | 8 => v = .pointer (some ⟨pb, po + i * 3, none⟩) | 9 => v = vv p0 q0 r0 | 10 => ∃ p q r, v = vv p q r ∧ F3 p q r (lessC (cs.getD j c0) (cs.getD i c0)) | 11 => ∃ b9, v = .pointer (some ⟨b9, 0, none⟩) ∧ St w0 ((b9, [.float .f32 0, .float .f32 0, .float .f32 0]) :: (b, [.int .i64 (i : Int), .int .i64 (j : Int)]) :: L) g X w' ∧ w0.heap.size ≤ b9 ∧ ∀ x9 ∈ ((b, [.int .i64 (i : Int), .int .i64 (j : Int)]) :: L), x9.1 < b9 | _ => True) (T := fun _ a w' => ∃ b9 x9 y9 z9, a.tmps[8]?.getD undef = .pointer (some ⟨b9, 0, none⟩) ∧ F3 x9 y9 z9 (lessC (cs.getD j c0) (cs.getD i c0)) ∧ St w0 ((b9, [.float .f32 x9, .float .f32 y9, .float .f32 z9]) :: (b, [.int .i64 (i : Int), .int .i64 (j : Int)]) :: L) g X w') [false, false, false, false, false, false, false, false, true, true, true, true, true, true, true, true, true, true, true, true, false, false, false, false, false, false, false, false]
  (by kernel_rfl) (by kernel_rfl) (by kernel_rfl) (by kernel_rfl) ?_ (fun _ _ _ _ _ _ hG hR => by rw [hG]; exact hR) (S1.out.drewN 1) ?_ ?_
 ·intro j9 v9 wa wb hj9 _ hG hR
  match j9 with
  | 0 => exact hR
  | 1 => exact hR
  | 2 => exact hR
  | 3 => exact hR
  | 4 => exact hR
  | 5 => exact hR
  | 6 => exact hR
  | 7 => exact hR
  | 8 => exact hR
  | 9 => exact hR
  | 10 => exact hR
  | 11 => obtain ⟨b9, e9, h1, h2, h3⟩ := hR; exact ⟨b9, e9, h1.call hG, h2, h3⟩
  | _ + 12 => exact absurd hj9 (by omega)
 ·refine ⟨Reg5.Obl.early rfl rfl ?_, Reg5.Obl.early rfl rfl ?_, Reg5.Obl.early rfl rfl ?_, Reg5.Obl.early rfl rfl ?_, Reg5.Obl.early rfl rfl ?_, Reg5.Obl.early rfl rfl ?_, Reg5.Obl.early rfl rfl ?_, Reg5.Obl.early rfl rfl ?_, Reg5.Obl.early rfl rfl ?_, Reg5.Obl.early rfl rfl ?_, Reg5.Obl.early rfl rfl ?_, Reg5.Obl.early rfl rfl ?_, Reg5.Obl.fin rfl rfl ?_, trivial⟩
  ·rintro a w1 HC hx hd K hK
   replace HC := Lib.hid HC
   have y9 := (HC.out.mem (.tail _ H4.out)) 0 _ rfl
   have t2 : a.tmps[2]?.getD undef = .pointer (some ⟨b4, 0, none⟩) := Reg.slot_val (hx 2 (by kernel_rfl))
   go_simp
   exact hK _ _ rfl HC.out (Below.refl _ _)
  ·rintro a w1 HC hx hd K hK
   replace HC := Lib.hid HC
   have t7 : a.tmps[7]?.getD undef = .pointer (some ⟨b, 0, none⟩) := Reg.slot_val (hx 7 (by kernel_rfl))
   go_simp
   exact hK _ _ rfl HC.out (Below.refl _ _)
  ·rintro a w1 HC hx hd K hK
   replace HC := Lib.hid HC
   have x1 := (HC.out.mem (.head _)) 1 _ rfl
   have t10 : a.tmps[10]?.getD undef = .pointer (some ⟨b, 1, none⟩) := Reg.slot_val (hd 1 (by kernel_rfl) 10 rfl)
   go_simp
   exact hK _ _ rfl HC.out (Below.refl _ _)
  ·rintro a w1 HC hx hd K hK
   replace HC := Lib.hid HC
   have t9 : a.tmps[9]?.getD undef = .slice (some ⟨pb, po, none⟩) n pc := Reg.slot_val (hd 0 (by kernel_rfl) 9 rfl)
   have t11 : a.tmps[11]?.getD undef = .int .i64 (j : Int) := Reg.slot_val (hd 2 (by kernel_rfl) 11 rfl)
   go_simp
   exact hK _ _ rfl HC.out (Below.refl _ _)
  ·rintro a w1 HC hx hd K hK
   replace HC := Lib.hid HC
   have y0 := cell_below HC.out.bel D1.out.1
   have y1 := cell_below HC.out.bel D1.out.2.1
   have y2 := cell_below HC.out.bel D1.out.2.2
   have t12 : a.tmps[12]?.getD undef = .pointer (some ⟨pb, po + j * 3, none⟩) := Reg.slot_val (hd 3 (by kernel_rfl) 12 rfl)
   go_simp
   exact hK _ _ rfl HC.out (Below.refl _ _)
  ·rintro a w1 HC hx hd K hK
   replace HC := Lib.hid HC
   have y9 := (HC.out.mem (.tail _ H4.out)) 0 _ rfl
   have t2 : a.tmps[2]?.getD undef = .pointer (some ⟨b4, 0, none⟩) := Reg.slot_val (hx 2 (by kernel_rfl))
   go_simp
   exact hK _ _ rfl HC.out (Below.refl _ _)
  ·rintro a w1 HC hx hd K hK
   replace HC := Lib.hid HC
   have t7 : a.tmps[7]?.getD undef = .pointer (some ⟨b, 0, none⟩) := Reg.slot_val (hx 7 (by kernel_rfl))
   go_simp
   exact hK _ _ rfl HC.out (Below.refl _ _)
  ·rintro a w1 HC hx hd K hK
   replace HC := Lib.hid HC
   have x0 := (HC.out.mem (.head _)) 0 _ rfl
   have t15 : a.tmps[15]?.getD undef = .pointer (some ⟨b, 0, none⟩) := Reg.slot_val (hd 6 (by kernel_rfl) 15 rfl)
   go_simp
   exact hK _ _ rfl HC.out (Below.refl _ _)
  ·rintro a w1 HC hx hd K hK
   replace HC := Lib.hid HC
   have t14 : a.tmps[14]?.getD undef = .slice (some ⟨pb, po, none⟩) n pc := Reg.slot_val (hd 5 (by kernel_rfl) 14 rfl)
   have t16 : a.tmps[16]?.getD undef = .int .i64 (i : Int) := Reg.slot_val (hd 7 (by kernel_rfl) 16 rfl)
   go_simp
   exact hK _ _ rfl HC.out (Below.refl _ _)
  ·rintro a w1 HC hx hd K hK
   replace HC := Lib.hid HC
   have y0 := cell_below HC.out.bel D0.out.1
   have y1 := cell_below HC.out.bel D0.out.2.1
   have y2 := cell_below HC.out.bel D0.out.2.2
   have t17 : a.tmps[17]?.getD undef = .pointer (some ⟨pb, po + i * 3, none⟩) := Reg.slot_val (hd 8 (by kernel_rfl) 17 rfl)
   go_simp
   exact hK _ _ rfl HC.out (Below.refl _ _)
  ·rintro a w1 HC hx hd K hK
   replace HC := Lib.hid HC
   have t13 : a.tmps[13]?.getD undef = vv p1 q1 r1 := Reg.slot_val (hd 4 (by kernel_rfl) 13 rfl)
   have t18 : a.tmps[18]?.getD undef = vv p0 q0 r0 := Reg.slot_val (hd 9 (by kernel_rfl) 18 rfl)
   go_simp
   refine (impl_LessVectors _ _ _ _ _ _ _ _ _ _ _ _ _ F1.out.1 F1.out.2.1 F1.out.2.2 F0.out.1 F0.out.2.1 F0.out.2.2).mono ?_
   rintro en w2 ⟨p', q', r', rfl, fp', fq', fr', hB2⟩
   exact hK _ _ ⟨p', q', r', rfl, fp', fq', fr'⟩ (HC.out.call hB2) hB2
  ·rintro a w1 HC hx hd K hK
   replace HC := Lib.hid HC
   go_simp
   have hB2 : Below w1.heap.size w1 (w1.alloc (.cells #[.float .f32 0, .float .f32 0, .float .f32 0] 42)) := (Below.refl _ _).alloc (Nat.le_refl _) _
   exact hK _ _ ⟨w1.heap.size, rfl, HC.out.box, HC.out.bel.size, fun x9 hx9 => (HC.out.2.1 x9.1 x9.2 hx9).2.2.1⟩ (HC.out.call hB2) hB2
  ·rintro a w1 HC hx hd K hK
   replace HC := Lib.hid HC
   obtain ⟨b9, g8, hS9, hb9, hl9⟩ := hd 11 (by kernel_rfl) 8 rfl
   have t8 := Reg.slot_val g8
   clear g8
   have z0 := (hS9.mem (.head _)) 0 _ rfl
   have z1 := (hS9.mem (.head _)) 1 _ rfl
   have z2 := (hS9.mem (.head _)) 2 _ rfl
   have k0 := hS9.free (.head _) 0
   have k1 := hS9.free (.head _) 1
   have k2 := hS9.free (.head _) 2
   have HS9 := Lib.hid (And.intro hS9 (And.intro hb9 hl9))
   clear hS9 hb9 hl9
   obtain ⟨p19, q19, r19, g19, f19⟩ := hd 10 (by kernel_rfl) 19 rfl
   have t19 := Reg.slot_val g19
   clear g19
   go_simp
   exact hK undef _ ⟨b9, _, _, _, t8, f19, ((HS9.out.1.setB HS9.out.2.1 HS9.out.2.2 0 _).setB HS9.out.2.1 HS9.out.2.2 1 _).setB HS9.out.2.1 HS9.out.2.2 2 _⟩
 ·rintro f' W3 hD hT
  obtain ⟨V, vx, vy, vz, e8, hF8, hS⟩ := hT 12 rfl (Nat.le_of_ble_eq_true rfl)
  have g8 : f' 8 = .pointer (some ⟨V, 0, none⟩) := e8
  simp only [Reg.mixL, Nat.zero_add, Nat.reduceAdd, g8]
  have S3 := Lib.hid hS
  have HW := Lib.hid hF8
  have HM := Lib.hid (List.Mem.tail (V, [Value.float .f32 vx, .float .f32 vy, .float .f32 vz]) (List.Mem.tail (b, [Value.int .i64 (i : Int), .int .i64 (j : Int)]) HM0.out))
  clear hD hT e8 hF8 hS g8
  go_wp2_with fail
  refine Reg5.wp_region_mix (m := 7) (C := St w0 ((V, [.float .f32 vx, .float .f32 vy, .float .f32 vz]) :: (b, [.int .i64 (i : Int), .int .i64 (j : Int)]) :: L) g X) (D := St w0 ((V, [.float .f32 vx, .float .f32 vy, .float .f32 vz]) :: (b, [.int .i64 (i : Int), .int .i64 (j : Int)]) :: L) g (addAt X k (scaleC (crossC N (lessC (cs.getD j c0) (cs.getD i c0))) P))) (G := fun w1 w2 => Below w1.heap.size w1 w2) (G' := fun w1 w2 => w2 = w1) (R := fun i' v w' => match i' with | 0 => v = .func (.func 170) #[] #[.pointer (some ⟨fb, 0, none⟩)] | 1 => v = .int .i64 (k : Int) | 2 => v = vv nx ny nz | 3 => v = vv vx vy vz | 4 => ∃ p q r, v = vv p q r ∧ F3 p q r (crossC N (lessC (cs.getD j c0) (cs.getD i c0))) | 5 => v = .float .f32 per | 6 => ∃ p q r, v = vv p q r ∧ F3 p q r (scaleC (crossC N (lessC (cs.getD j c0) (cs.getD i c0))) P) | _ => True) (T := fun _ _ _ => True) [false, false, false, false, false, false, false, false, false, false, false, false, false, false, false, false, false, false, false, false, true, true, true, true, true, true, true, true]
   (by kernel_rfl) (by kernel_rfl) (by kernel_rfl) (by kernel_rfl) (fun _ _ _ _ _ _ _ h => h) (fun _ _ _ _ _ _ _ h => h) (S3.out.drewN 1) ?_ ?_
  ·refine ⟨Reg5.Obl.early rfl rfl ?_, Reg5.Obl.early rfl rfl ?_, Reg5.Obl.early rfl rfl ?_, Reg5.Obl.early rfl rfl ?_, Reg5.Obl.early rfl rfl ?_, Reg5.Obl.early rfl rfl ?_, Reg5.Obl.early rfl rfl ?_, Reg5.Obl.mid rfl rfl ?_, trivial⟩
   ·rintro a w1 HC hx hd K hK
    replace HC := Lib.hid HC
    have y9 := (HC.out.mem (.tail _ (.tail _ H5.out))) 0 _ rfl
    have t3 : a.tmps[3]?.getD undef = .pointer (some ⟨b5, 0, none⟩) := Reg.slot_val (hx 3 (by kernel_rfl))
    go_simp
    exact hK _ _ rfl HC.out (Below.refl _ _)
   ·rintro a w1 HC hx hd K hK
    replace HC := Lib.hid HC
    have t0 : a.tmps[0]?.getD undef = .int .i64 (k : Int) := Reg.slot_val (hx 0 (by kernel_rfl))
    go_simp
    exact hK _ _ rfl HC.out (Below.refl _ _)
   ·rintro a w1 HC hx hd K hK
    replace HC := Lib.hid HC
    have x0 := (HC.out.mem (.tail _ (.tail _ H6.out))) 0 _ rfl
    have x1 := (HC.out.mem (.tail _ (.tail _ H6.out))) 1 _ rfl
    have x2 := (HC.out.mem (.tail _ (.tail _ H6.out))) 2 _ rfl
    have t4 : a.tmps[4]?.getD undef = .pointer (some ⟨b6, 0, none⟩) := Reg.slot_val (hx 4 (by kernel_rfl))
    go_simp
    exact hK _ _ rfl HC.out (Below.refl _ _)
   ·rintro a w1 HC hx hd K hK
    replace HC := Lib.hid HC
    have x0 := (HC.out.mem (.head _)) 0 _ rfl
    have x1 := (HC.out.mem (.head _)) 1 _ rfl
    have x2 := (HC.out.mem (.head _)) 2 _ rfl
    have t8 : a.tmps[8]?.getD undef = .pointer (some ⟨V, 0, none⟩) := Reg.slot_val (hx 8 (by kernel_rfl))
    go_simp
    exact hK _ _ rfl HC.out (Below.refl _ _)
   ·rintro a w1 HC hx hd K hK
    replace HC := Lib.hid HC
    have t22 : a.tmps[22]?.getD undef = vv nx ny nz := Reg.slot_val (hd 2 (by kernel_rfl) 22 rfl)
    have t23 : a.tmps[23]?.getD undef = vv vx vy vz := Reg.slot_val (hd 3 (by kernel_rfl) 23 rfl)
    go_simp
    refine (impl_CrossOf _ _ _ _ _ _ _ _ _ _ _ _ _ HN.out.1 HN.out.2.1 HN.out.2.2 HW.out.1 HW.out.2.1 HW.out.2.2).mono ?_
    rintro en w2 ⟨p', q', r', rfl, fp', fq', fr', hB2⟩
    exact hK _ _ ⟨p', q', r', rfl, fp', fq', fr'⟩ (HC.out.call hB2) hB2
   ·rintro a w1 HC hx hd K hK
    replace HC := Lib.hid HC
    have y9 := (HC.out.mem (.tail _ (.tail _ H7.out))) 0 _ rfl
    have t5 : a.tmps[5]?.getD undef = .pointer (some ⟨b7, 0, none⟩) := Reg.slot_val (hx 5 (by kernel_rfl))
    go_simp
    exact hK _ _ rfl HC.out (Below.refl _ _)
   ·rintro a w1 HC hx hd K hK
    replace HC := Lib.hid HC
    obtain ⟨p24, q24, r24, g24, f24⟩ := hd 4 (by kernel_rfl) 24 rfl
    have t24 := Reg.slot_val g24
    clear g24
    have t25 : a.tmps[25]?.getD undef = .float .f32 per := Reg.slot_val (hd 5 (by kernel_rfl) 25 rfl)
    go_simp
    refine (impl_ScaleVector _ _ _ _ _ _ _ _ _ f24.1 f24.2.1 f24.2.2 HP.out).mono ?_
    rintro en w2 ⟨p', q', r', rfl, fp', fq', fr', hB2⟩
    exact hK _ _ ⟨p', q', r', rfl, fp', fq', fr'⟩ (HC.out.call hB2) hB2
   ·rintro a w1 HC hx hd K hK
    replace HC := Lib.hid HC
    have t20 : a.tmps[20]?.getD undef = .func (.func 170) #[] #[.pointer (some ⟨fb, 0, none⟩)] := Reg.slot_val (hd 0 (by kernel_rfl) 20 rfl)
    have t21 : a.tmps[21]?.getD undef = .int .i64 (k : Int) := Reg.slot_val (hd 1 (by kernel_rfl) 21 rfl)
    obtain ⟨p26, q26, r26, g26, f26⟩ := hd 6 (by kernel_rfl) 26 rfl
    have t26 := Reg.slot_val g26
    clear g26
    go_simp
    refine (add_force w0 _ fb g k n _ _ _ X (scaleC (crossC N (lessC (cs.getD j c0) (cs.getD i c0))) P) w1 HC.out HM.out HX.out HKn.out hx9 f26).mono ?_
    rintro en w2 ⟨rfl, hS⟩
    exact hK _ _ trivial hS
  ·rintro f' W5 hD hT
   have hS := (hD (fun j hj => by revert j; decide)).1
   simp only [Reg.mixL, Nat.zero_add, Nat.reduceAdd]
   have H5 := Lib.hid hS.drop.drop
   clear hD hT hS
   go_wp2
   refine ⟨rfl, .tuple #[], ?_, rfl, H5.out⟩
   first | rfl | (simp [results, Tryz.results257, go_sem]; done) | (simp [results, Tryz.results257, go_sem]; rfl)
end Go.Proofs.YtabccmobmppdnaaGreat
namespace Go.Proofs.YtabccmobmppdnaaGreat
open Go Fk Go.RowKit
set_option linter.unusedVariables false
set_option maxRecDepth 16000
set_option maxHeartbeats 16000000 in
theorem film_forces (w0 : World) (L : List (Nat × List Value)) (fb g n : Nat) (X : List C3) (w : World) (h : St w0 L g X w) (hm : (fb, [Value.slice (some ⟨g, 0, none⟩) n n]) ∈ L) (hn : X.length = n) (hx9 : n ≤ 1048576) (t : List Int) (m0 m1 m2 : Nat) (e0 : t.getD 0 0 = m0) (e1 : t.getD 1 0 = m1) (e2 : t.getD 2 0 = m2) (ht : triB n t = true) (fc : Option Nat) (x : Nat) (pa : Option Addr) (pc : Nat) (cs : List C3) (hv : IsVs w0 pa n pc cs) (fx : FV .f32 x fc) :
  Calls Tryz.prog 254 #[.agg #[.int .i64 (m0 : Int), .int .i64 (m1 : Int), .int .i64 (m2 : Int), .float .f32 x], .slice pa n pc, .func (.func 170) #[] #[.pointer (some ⟨fb, 0, none⟩)]] w fun e w' => e = .returned (.tuple #[]) ∧ St w0 L g (addAt (addAt (addAt X m0 (scaleC (crossC (normalC cs t) (lessC (cs.getD m2 c0) (cs.getD m1 c0))) (gainC (negC32 (fop .mul .f32 halfC fc)) (longC (normalC cs t))))) m1 (scaleC (crossC (normalC cs t) (lessC (cs.getD m0 c0) (cs.getD m2 c0))) (gainC (negC32 (fop .mul .f32 halfC fc)) (longC (normalC cs t))))) m2 (scaleC (crossC (normalC cs t) (lessC (cs.getD m1 c0) (cs.getD m0 c0))) (gainC (negC32 (fop .mul .f32 halfC fc)) (longC (normalC cs t))))) w' := by
 have u := Tryz.underlying27
 have uv := Tryz.underlying42
 have uf := Tryz.underlying192
 have uc := Tryz.underlying190
 have um := Tryz.underlying40
 have us := Tryz.underlying241
 have hmf : ∀ (fn : Fn) (first cap : Array Value) (w : World), (Instr.makeFunc fn first cap).run Tryz.prog w = .ok (.func fn first cap) w := fun _ _ _ _ => rfl
 obtain ⟨h3, hin⟩ := tri_parts ht
 have hi0 : m0 < n := by have := hin 0 (by decide); rw [e0] at this; omega
 have hi1 : m1 < n := by have := hin 1 (by decide); rw [e1] at this; omega
 have hi2 : m2 < n := by have := hin 2 (by decide); rw [e2] at this; omega
 have JN := Lib.hid (fun (w1 : World) (h1 : IsVs w1 pa n pc cs) => mesh_normal pa none n pc 0 0 cs t w1 h1 ht)
 rw [e0, e1, e2] at JN
 generalize normalC cs t = N at *
 have S1' : St w0 ((w.heap.size + 1 + 1, [.func (.func 170) #[] #[.pointer (some ⟨fb, 0, none⟩)]]) :: (w.heap.size + 1, [.slice pa n pc]) :: (w.heap.size, [.int .i64 (m0 : Int), .int .i64 (m1 : Int), .int .i64 (m2 : Int), .float .f32 x]) :: L) g X (((w.alloc (.cells #[.int .i64 (m0 : Int), .int .i64 (m1 : Int), .int .i64 (m2 : Int), .float .f32 x] 192)).alloc (.cells #[.slice pa n pc] 36)).alloc (.cells #[.func (.func 170) #[] #[.pointer (some ⟨fb, 0, none⟩)]] 303)) := by
  have := ((h.box (vs := [.int .i64 (m0 : Int), .int .i64 (m1 : Int), .int .i64 (m2 : Int), .float .f32 x]) (t := 192)).box (vs := [.slice pa n pc]) (t := 36)).box (vs := [.func (.func 170) #[] #[.pointer (some ⟨fb, 0, none⟩)]]) (t := 303)
  simpa using this
 have S1 := Lib.hid S1'
 have HM1 := Lib.hid (List.Mem.tail (w.heap.size + 1 + 1, ([.func (.func 170) #[] #[.pointer (some ⟨fb, 0, none⟩)]] : List Value)) (List.Mem.tail (w.heap.size + 1, ([.slice pa n pc] : List Value)) (List.Mem.tail (w.heap.size, ([.int .i64 (m0 : Int), .int .i64 (m1 : Int), .int .i64 (m2 : Int), .float .f32 x] : List Value)) hm)))
 have HX := Lib.hid hn
 have HI := Lib.hid (And.intro hi0 (And.intro hi1 hi2))
 have HV := Lib.hid hv
 have FX := Lib.hid fx
 clear h hm S1' fx hn hv h3 hin ht e0 e1 e2 hi0 hi1 hi2
 go_enter Tryz.func254, Tryz.ntmps254
 have a0 := (S1.out.mem (.tail _ (.tail _ (.head _)))) 0 _ rfl
 have a1 := (S1.out.mem (.tail _ (.tail _ (.head _)))) 1 _ rfl
 have a2 := (S1.out.mem (.tail _ (.tail _ (.head _)))) 2 _ rfl
 have a3 := (S1.out.mem (.tail _ (.tail _ (.head _)))) 3 _ rfl
 have a4 := (S1.out.mem (.tail _ (.head _))) 0 _ rfl
 go_wp2_with fail
 clear a0 a1 a2 a3 a4
 generalize (((w.alloc (.cells #[.int .i64 (m0 : Int), .int .i64 (m1 : Int), .int .i64 (m2 : Int), .float .f32 x] 192)).alloc (.cells #[.slice pa n pc] 36)).alloc (.cells #[.func (.func 170) #[] #[.pointer (some ⟨fb, 0, none⟩)]] 303)) = W at *
 generalize hb3 : w.heap.size = b3 at *
 generalize hb4 : b3 + 1 = b4 at *
 generalize hb5 : b4 + 1 = b5 at *
 clear hb3 hb4 hb5
 refine (JN.out W (HV.out.below S1.out.bel)).mono ?_
 rintro e w1 ⟨nx, ny, nz, rfl, n0, n1, n2, hB1⟩
 have hN : F3 nx ny nz N := ⟨n0, n1, n2⟩
 have S2' : St w0 ((w1.heap.size, [.float .f32 nx, .float .f32 ny, .float .f32 nz]) :: (b5, [.func (.func 170) #[] #[.pointer (some ⟨fb, 0, none⟩)]]) :: (b4, [.slice pa n pc]) :: (b3, [.int .i64 (m0 : Int), .int .i64 (m1 : Int), .int .i64 (m2 : Int), .float .f32 x]) :: L) g X (w1.alloc (.cells #[.float .f32 nx, .float .f32 ny, .float .f32 nz] 42)) := (S1.out.call hB1).box
 have S2 := Lib.hid S2'
 have HM2 := Lib.hid (List.Mem.tail (w1.heap.size, [Value.float .f32 nx, .float .f32 ny, .float .f32 nz]) HM1.out)
 have HN := Lib.hid hN
 clear hB1 S2' hN n0 n1 n2 S1
 go_wp2_with fail
 generalize (w1.alloc (.cells #[.float .f32 nx, .float .f32 ny, .float .f32 nz] 42)) = W2 at *
 generalize w1.heap.size = V at *
 refine Reg5.wp_region_mix (m := 8) (C := St w0 ((V, [.float .f32 nx, .float .f32 ny, .float .f32 nz]) :: (b5, [.func (.func 170) #[] #[.pointer (some ⟨fb, 0, none⟩)]]) :: (b4, [.slice pa n pc]) :: (b3, [.int .i64 (m0 : Int), .int .i64 (m1 : Int), .int .i64 (m2 : Int), .float .f32 x]) :: L) g X) (D := fun _ => True) (G := fun w1 w2 => Below w1.heap.size w1 w2) (G' := fun w1 w2 => w2 = w1) (R := fun i' v w' => match i' with | 0 => v = .pointer (some ⟨b3, 3, none⟩) | 1 => v = .float .f32 x | 2 => ∃ r, v = .float .f32 r ∧ FV .f32 r (fop .mul .f32 halfC fc) | 3 => ∃ r, v = .float .f32 r ∧ FV .f32 r (negC32 (fop .mul .f32 halfC fc)) | 4 => v = vv nx ny nz | 5 => ∃ r, v = .float .f32 r ∧ FV .f32 r (longC N) | 6 => ∃ r, v = .float .f32 r ∧ FV .f32 r (gainC (negC32 (fop .mul .f32 halfC fc)) (longC N)) | 7 => ∃ b9, v = .pointer (some ⟨b9, 0, none⟩) ∧ St w0 ((b9, [.float .f32 0]) :: (V, [.float .f32 nx, .float .f32 ny, .float .f32 nz]) :: (b5, [.func (.func 170) #[] #[.pointer (some ⟨fb, 0, none⟩)]]) :: (b4, [.slice pa n pc]) :: (b3, [.int .i64 (m0 : Int), .int .i64 (m1 : Int), .int .i64 (m2 : Int), .float .f32 x]) :: L) g X w' ∧ w0.heap.size ≤ b9 ∧ ∀ x9 ∈ ((V, [.float .f32 nx, .float .f32 ny, .float .f32 nz]) :: (b5, [.func (.func 170) #[] #[.pointer (some ⟨fb, 0, none⟩)]]) :: (b4, [.slice pa n pc]) :: (b3, [.int .i64 (m0 : Int), .int .i64 (m1 : Int), .int .i64 (m2 : Int), .float .f32 x]) :: L), x9.1 < b9 | _ => True) (T := fun _ a w' => ∃ b9 x9, a.tmps[7]?.getD undef = .pointer (some ⟨b9, 0, none⟩) ∧ FV .f32 x9 (gainC (negC32 (fop .mul .f32 halfC fc)) (longC N)) ∧ St w0 ((b9, [.float .f32 x9]) :: (V, [.float .f32 nx, .float .f32 ny, .float .f32 nz]) :: (b5, [.func (.func 170) #[] #[.pointer (some ⟨fb, 0, none⟩)]]) :: (b4, [.slice pa n pc]) :: (b3, [.int .i64 (m0 : Int), .int .i64 (m1 : Int), .int .i64 (m2 : Int), .float .f32 x]) :: L) g X w') [false, false, false, false, false, false, false, true, false, false, false, false, false, false, false, true, true, true, true, true, true, true, false, false, false, false, false, false, false, false, false, false, false, false, false, false, false, false, false, false, false, false, false, false, false, false, false]
  (by kernel_rfl) (by kernel_rfl) (by kernel_rfl) (by kernel_rfl) ?_ (fun _ _ _ _ _ _ hG hR => by rw [hG]; exact hR) (S2.out.drewN 1) ?_ ?_
 ·intro j9 v9 wa wb hj9 _ hG hR
  match j9 with
  | 0 => exact hR
  | 1 => exact hR
  | 2 => exact hR
  | 3 => exact hR
  | 4 => exact hR
  | 5 => exact hR
  | 6 => exact hR
  | 7 => obtain ⟨b9, e9, h1, h2, h3⟩ := hR; exact ⟨b9, e9, h1.call hG, h2, h3⟩
  | _ + 8 => exact absurd hj9 (by omega)
 ·refine ⟨Reg5.Obl.early rfl rfl ?_, Reg5.Obl.early rfl rfl ?_, Reg5.Obl.early rfl rfl ?_, Reg5.Obl.early rfl rfl ?_, Reg5.Obl.early rfl rfl ?_, Reg5.Obl.early rfl rfl ?_, Reg5.Obl.early rfl rfl ?_, Reg5.Obl.early rfl rfl ?_, Reg5.Obl.fin rfl rfl ?_, trivial⟩
  ·rintro a w1 HC hx hd K hK
   replace HC := Lib.hid HC
   have t3 : a.tmps[3]?.getD undef = .pointer (some ⟨b3, 0, none⟩) := Reg.slot_val (hx 3 (by kernel_rfl))
   go_simp
   exact hK _ _ rfl HC.out (Below.refl _ _)
  ·rintro a w1 HC hx hd K hK
   replace HC := Lib.hid HC
   have y9 := (HC.out.mem (.tail _ (.tail _ (.tail _ (.head _))))) 3 _ rfl
   have t15 : a.tmps[15]?.getD undef = .pointer (some ⟨b3, 3, none⟩) := Reg.slot_val (hd 0 (by kernel_rfl) 15 rfl)
   go_simp
   exact hK _ _ rfl HC.out (Below.refl _ _)
  ·rintro a w1 HC hx hd K hK
   replace HC := Lib.hid HC
   have t16 : a.tmps[16]?.getD undef = .float .f32 x := Reg.slot_val (hd 1 (by kernel_rfl) 16 rfl)
   go_simp
   refine (impl_product32 _ _ w1 _ _ half_FV FX.out).mono ?_
   rintro en w2 ⟨r, rfl, hr, n9, hw9⟩
   have hB2 : Below w1.heap.size w1 w2 := by rw [hw9]; exact below_drewN (Below.refl _ _) _
   clear hw9
   exact hK _ _ ⟨r, rfl, hr⟩ (HC.out.call hB2) hB2
  ·rintro a w1 HC hx hd K hK
   replace HC := Lib.hid HC
   obtain ⟨r17, g17, f17⟩ := hd 2 (by kernel_rfl) 17 rfl
   have t17 := Reg.slot_val g17
   clear g17
   go_simp
   exact hK _ _ ⟨_, rfl, FV_neg32 f17⟩ HC.out (Below.refl _ _)
  ·rintro a w1 HC hx hd K hK
   replace HC := Lib.hid HC
   have x0 := (HC.out.mem (.head _)) 0 _ rfl
   have x1 := (HC.out.mem (.head _)) 1 _ rfl
   have x2 := (HC.out.mem (.head _)) 2 _ rfl
   have t6 : a.tmps[6]?.getD undef = .pointer (some ⟨V, 0, none⟩) := Reg.slot_val (hx 6 (by kernel_rfl))
   go_simp
   exact hK _ _ rfl HC.out (Below.refl _ _)
  ·rintro a w1 HC hx hd K hK
   replace HC := Lib.hid HC
   have t19 : a.tmps[19]?.getD undef = vv nx ny nz := Reg.slot_val (hd 4 (by kernel_rfl) 19 rfl)
   go_simp
   refine (impl_LongOf _ _ _ w1 _ _ _ HN.out.1 HN.out.2.1 HN.out.2.2).mono ?_
   rintro en w2 ⟨r, rfl, hr, hB2⟩
   exact hK _ _ ⟨r, rfl, hr⟩ (HC.out.call hB2) hB2
  ·rintro a w1 HC hx hd K hK
   replace HC := Lib.hid HC
   obtain ⟨r18, g18, f18⟩ := hd 3 (by kernel_rfl) 18 rfl
   have t18 := Reg.slot_val g18
   clear g18
   obtain ⟨r20, g20, f20⟩ := hd 5 (by kernel_rfl) 20 rfl
   have t20 := Reg.slot_val g20
   clear g20
   go_simp
   refine (impl_perLength _ _ _ _ w1 f18 f20).mono ?_
   rintro en w2 ⟨r, rfl, hr, n9, hw9⟩
   have hB2 : Below w1.heap.size w1 w2 := by rw [hw9]; exact below_drewN (Below.refl _ _) _
   clear hw9
   exact hK _ _ ⟨r, rfl, hr⟩ (HC.out.call hB2) hB2
  ·rintro a w1 HC hx hd K hK
   replace HC := Lib.hid HC
   go_simp
   have hB2 : Below w1.heap.size w1 (w1.alloc (.cells #[.float .f32 0] 27)) := (Below.refl _ _).alloc (Nat.le_refl _) _
   exact hK _ _ ⟨w1.heap.size, rfl, HC.out.box, HC.out.bel.size, fun x9 hx9 => (HC.out.2.1 x9.1 x9.2 hx9).2.2.1⟩ (HC.out.call hB2) hB2
  ·rintro a w1 HC hx hd K hK
   replace HC := Lib.hid HC
   obtain ⟨b9, g7, hS9, hb9, hl9⟩ := hd 7 (by kernel_rfl) 7 rfl
   have t7 := Reg.slot_val g7
   clear g7
   have z0 := (hS9.mem (.head _)) 0 _ rfl
   have k0 := hS9.free (.head _) 0
   have HS9 := Lib.hid (And.intro hS9 (And.intro hb9 hl9))
   clear hS9 hb9 hl9
   obtain ⟨r21, g21, f21⟩ := hd 6 (by kernel_rfl) 21 rfl
   have t21 := Reg.slot_val g21
   clear g21
   go_simp
   exact hK undef _ ⟨b9, _, t7, f21, HS9.out.1.setB HS9.out.2.1 HS9.out.2.2 0 _⟩
 ·rintro f' W3 hD hT
  obtain ⟨U, px, e8, hF8, hS⟩ := hT 8 rfl (Nat.le_of_ble_eq_true rfl)
  have g8 : f' 7 = .pointer (some ⟨U, 0, none⟩) := e8
  simp only [Reg.mixL, Nat.zero_add, Nat.reduceAdd, g8]
  have S3 := Lib.hid hS
  have HPX := Lib.hid hF8
  have HM3 := Lib.hid (List.Mem.tail (U, [Value.float .f32 px]) HM2.out)
  clear hD hT e8 hF8 hS g8 S2
  generalize hPP : gainC (negC32 (fop .mul .f32 halfC fc)) (longC N) = PC at *
  have a0 := (S3.out.mem (.tail _ (.tail _ (.tail _ (.tail _ (.head _)))))) 0 _ rfl
  have a1 := (S3.out.mem (.tail _ (.tail _ (.tail _ (.tail _ (.head _)))))) 1 _ rfl
  have a2 := (S3.out.mem (.tail _ (.tail _ (.tail _ (.tail _ (.head _)))))) 2 _ rfl
  go_wp2_with fail
  clear a0 a1 a2
  refine (impl_sides (m0 : Int) (m1 : Int) (m2 : Int) W3).mono ?_
  rintro e w4 ⟨rfl, hB4⟩
  have S4' : St w0 ((w4.heap.size, [.int .i64 (m0 : Int), .int .i64 (m1 : Int), .int .i64 (m1 : Int), .int .i64 (m2 : Int), .int .i64 (m2 : Int), .int .i64 (m0 : Int)]) :: (U, [.float .f32 px]) :: (V, [.float .f32 nx, .float .f32 ny, .float .f32 nz]) :: (b5, [.func (.func 170) #[] #[.pointer (some ⟨fb, 0, none⟩)]]) :: (b4, [.slice pa n pc]) :: (b3, [.int .i64 (m0 : Int), .int .i64 (m1 : Int), .int .i64 (m2 : Int), .float .f32 x]) :: L) g X (w4.alloc (.cells #[.int .i64 (m0 : Int), .int .i64 (m1 : Int), .int .i64 (m1 : Int), .int .i64 (m2 : Int), .int .i64 (m2 : Int), .int .i64 (m0 : Int)] 242)) := (S3.out.call hB4).box
  have S4 := Lib.hid S4'
  clear hB4 S4' S3
  have a0 := (S4.out.mem (.tail _ (.tail _ (.tail _ (.tail _ (.tail _ (.head _))))))) 0 _ rfl
  have a1 := (S4.out.mem (.tail _ (.tail _ (.tail _ (.tail _ (.tail _ (.head _))))))) 1 _ rfl
  have a2 := (S4.out.mem (.tail _ (.tail _ (.tail _ (.tail _ (.tail _ (.head _))))))) 2 _ rfl
  have s0 := (S4.out.mem (.head _)) 0 _ rfl
  have s1 := (S4.out.mem (.head _)) 1 _ rfl
  have s2 := (S4.out.mem (.head _)) 2 _ rfl
  have s3 := (S4.out.mem (.head _)) 3 _ rfl
  have s4 := (S4.out.mem (.head _)) 4 _ rfl
  have s5 := (S4.out.mem (.head _)) 5 _ rfl
  go_wp2_with fail
  generalize (w4.alloc (.cells #[.int .i64 (m0 : Int), .int .i64 (m1 : Int), .int .i64 (m1 : Int), .int .i64 (m2 : Int), .int .i64 (m2 : Int), .int .i64 (m0 : Int)] 242)) = W5 at *
  generalize w4.heap.size = Z at *
  clear a0 a1 a2 s0 s1 s2 s3 s4 s5
  refine (film_pull w0 ((Z, [.int .i64 (m0 : Int), .int .i64 (m1 : Int), .int .i64 (m1 : Int), .int .i64 (m2 : Int), .int .i64 (m2 : Int), .int .i64 (m0 : Int)]) :: (U, [.float .f32 px]) :: (V, [.float .f32 nx, .float .f32 ny, .float .f32 nz]) :: (b5, [.func (.func 170) #[] #[.pointer (some ⟨fb, 0, none⟩)]]) :: (b4, [.slice pa n pc]) :: (b3, [.int .i64 (m0 : Int), .int .i64 (m1 : Int), .int .i64 (m2 : Int), .float .f32 x]) :: L) fb g n X _ S4.out (.tail _ HM3.out) HX.out hx9 m1 m2 m0 b4 b5 V U nx ny nz px HI.out.2.1 HI.out.2.2 HI.out.1 N PC pa pc cs HV.out (.tail _ (.tail _ (.tail _ (.tail _ (.head _))))) (.tail _ (.tail _ (.tail _ (.head _)))) (.tail _ (.tail _ (.head _))) (.tail _ (.head _)) HN.out HPX.out).mono ?_
  rintro e w6 ⟨rfl, hS⟩
  have S6 := Lib.hid hS
  clear hS
  generalize hX6 : addAt X m0 (scaleC (crossC (N) (lessC (cs.getD m2 c0) (cs.getD m1 c0))) (PC)) = X6 at *
  have HX6 : Hid (X6.length = n) := Lib.hid (by rw [← hX6, addAt_len]; exact HX.out)
  have a0 := (S6.out.mem (.tail _ (.tail _ (.tail _ (.tail _ (.tail _ (.head _))))))) 0 _ rfl
  have a1 := (S6.out.mem (.tail _ (.tail _ (.tail _ (.tail _ (.tail _ (.head _))))))) 1 _ rfl
  have a2 := (S6.out.mem (.tail _ (.tail _ (.tail _ (.tail _ (.tail _ (.head _))))))) 2 _ rfl
  have s0 := (S6.out.mem (.head _)) 0 _ rfl
  have s1 := (S6.out.mem (.head _)) 1 _ rfl
  have s2 := (S6.out.mem (.head _)) 2 _ rfl
  have s3 := (S6.out.mem (.head _)) 3 _ rfl
  have s4 := (S6.out.mem (.head _)) 4 _ rfl
  have s5 := (S6.out.mem (.head _)) 5 _ rfl
  go_wp2_with fail
  clear a0 a1 a2 s0 s1 s2 s3 s4 s5
  refine (film_pull w0 ((Z, [.int .i64 (m0 : Int), .int .i64 (m1 : Int), .int .i64 (m1 : Int), .int .i64 (m2 : Int), .int .i64 (m2 : Int), .int .i64 (m0 : Int)]) :: (U, [.float .f32 px]) :: (V, [.float .f32 nx, .float .f32 ny, .float .f32 nz]) :: (b5, [.func (.func 170) #[] #[.pointer (some ⟨fb, 0, none⟩)]]) :: (b4, [.slice pa n pc]) :: (b3, [.int .i64 (m0 : Int), .int .i64 (m1 : Int), .int .i64 (m2 : Int), .float .f32 x]) :: L) fb g n X6 _ S6.out (.tail _ HM3.out) HX6.out hx9 m2 m0 m1 b4 b5 V U nx ny nz px HI.out.2.2 HI.out.1 HI.out.2.1 N PC pa pc cs HV.out (.tail _ (.tail _ (.tail _ (.tail _ (.head _))))) (.tail _ (.tail _ (.tail _ (.head _)))) (.tail _ (.tail _ (.head _))) (.tail _ (.head _)) HN.out HPX.out).mono ?_
  rintro e w7 ⟨rfl, hS⟩
  have S7 := Lib.hid hS
  clear hS
  generalize hX7 : addAt X6 m1 (scaleC (crossC (N) (lessC (cs.getD m0 c0) (cs.getD m2 c0))) (PC)) = X7 at *
  have HX7 : Hid (X7.length = n) := Lib.hid (by rw [← hX7, addAt_len]; exact HX6.out)
  have a0 := (S7.out.mem (.tail _ (.tail _ (.tail _ (.tail _ (.tail _ (.head _))))))) 0 _ rfl
  have a1 := (S7.out.mem (.tail _ (.tail _ (.tail _ (.tail _ (.tail _ (.head _))))))) 1 _ rfl
  have a2 := (S7.out.mem (.tail _ (.tail _ (.tail _ (.tail _ (.tail _ (.head _))))))) 2 _ rfl
  have s0 := (S7.out.mem (.head _)) 0 _ rfl
  have s1 := (S7.out.mem (.head _)) 1 _ rfl
  have s2 := (S7.out.mem (.head _)) 2 _ rfl
  have s3 := (S7.out.mem (.head _)) 3 _ rfl
  have s4 := (S7.out.mem (.head _)) 4 _ rfl
  have s5 := (S7.out.mem (.head _)) 5 _ rfl
  go_wp2_with fail
  clear a0 a1 a2 s0 s1 s2 s3 s4 s5
  refine (film_pull w0 ((Z, [.int .i64 (m0 : Int), .int .i64 (m1 : Int), .int .i64 (m1 : Int), .int .i64 (m2 : Int), .int .i64 (m2 : Int), .int .i64 (m0 : Int)]) :: (U, [.float .f32 px]) :: (V, [.float .f32 nx, .float .f32 ny, .float .f32 nz]) :: (b5, [.func (.func 170) #[] #[.pointer (some ⟨fb, 0, none⟩)]]) :: (b4, [.slice pa n pc]) :: (b3, [.int .i64 (m0 : Int), .int .i64 (m1 : Int), .int .i64 (m2 : Int), .float .f32 x]) :: L) fb g n X7 _ S7.out (.tail _ HM3.out) HX7.out hx9 m0 m1 m2 b4 b5 V U nx ny nz px HI.out.1 HI.out.2.1 HI.out.2.2 N PC pa pc cs HV.out (.tail _ (.tail _ (.tail _ (.tail _ (.head _))))) (.tail _ (.tail _ (.tail _ (.head _)))) (.tail _ (.tail _ (.head _))) (.tail _ (.head _)) HN.out HPX.out).mono ?_
  rintro e w8 ⟨rfl, hS⟩
  have S8 := Lib.hid hS
  clear hS
  have H8 := Lib.hid S8.out.drop.drop.drop.drop.drop.drop
  clear S8
  go_wp2
  refine ⟨rfl, .tuple #[], ?_, rfl, by first | (rw [hX6, hX7]; exact H8.out) | (rw [hPP, hX6, hX7]; exact H8.out)⟩
  first | rfl | (simp [results, Tryz.results254, go_sem]; done) | (simp [results, Tryz.results254, go_sem]; rfl)
end Go.Proofs.YtabccmobmppdnaaGreat
namespace Go.Proofs.YtabccmobmppdnaaGreat
namespace Reg9
open Go Reg
set_option linter.unusedVariables false
section
variable {P : Program} {ops : Array Oper} {Q : Exit → Act → World → Prop} {md : Region.Mode}
def tail (ops : Array Oper) (m : Nat) : Bool :=
 decide (m < ops.size) && ((List.range ops.size).all fun j => decide (j < m) || slotOf ops j == none) && ((List.range ops.size).all fun j => decide (j < m) || (List.range j).all fun i => (List.range (j + 1)).any fun k => decide (i < k) && behind ops i k)
theorem tail_none {m j : Nat} (h : tail ops m = true) (hj : j < ops.size) (hm : m ≤ j) : slotOf ops j = none := by
 unfold tail at h
 simp only [Bool.and_eq_true] at h
 have := List.all_eq_true.1 h.1.2 j (List.mem_range.2 hj)
 have hn : ¬ j < m := by omega
 simpa [hn] using this
theorem tail_some {m i j : Nat} (h : tail ops m = true) (hj : j < ops.size) (hm : m ≤ j) (hi : i < j) : ∃ k, i < k ∧ k ≤ j ∧ behind ops i k = true := by
 unfold tail at h
 simp only [Bool.and_eq_true] at h
 have := List.all_eq_true.1 h.2 j (List.mem_range.2 hj)
 have hn : ¬ j < m := by omega
 simp only [hn, decide_false, Bool.false_or] at this
 have := List.all_eq_true.1 this i (List.mem_range.2 hi)
 rw [List.any_eq_true] at this
 obtain ⟨k, hk, hb⟩ := this
 rw [Bool.and_eq_true, decide_eq_true_eq] at hb
 exact ⟨k, hb.1, by have := List.mem_range.1 hk; omega, hb.2⟩
theorem tail_all {m j : Nat} {L : Array Bool} (h : tail ops m = true) (hj : j < ops.size) (hm : m ≤ j) (hcl : ∀ i j, L.getD j false = true → behind ops i j = true → L.getD i false = true) (hl : L.getD j false = true) :
  ∀ d i, j - i = d → i ≤ j → L.getD i false = true := by
 intro d
 induction d using Nat.strongRecOn with
 | ind d ih =>
  intro i hd hi
  by_cases e : i = j
  ·rw [e]; exact hl
  ·obtain ⟨k, h1, h2, h3⟩ := tail_some h hj hm (show i < j by omega)
   exact hcl i k (ih (j - k) (by omega) k rfl h2) h3
theorem tail_lt {m : Nat} (h : tail ops m = true) : m < ops.size := by
 unfold tail at h
 simp only [Bool.and_eq_true, decide_eq_true_eq] at h
 exact h.1.1
def Pair (ops : Array Oper) (D : Nat → Nat → Value → Value → Prop) (j j' : Nat) (a : Act) : Prop := ∀ d d', slotOf ops j = some d → slotOf ops j' = some d' → D j j' (a.eval (.tmp d)) (a.eval (.tmp d')) ∨ D j' j (a.eval (.tmp d')) (a.eval (.tmp d))
def Obl (P : Program) (ops : Array Oper) (m : Nat) (a0 : Act) (C : World → Prop) (G : World → World → Prop) (R : Nat → Value → World → Prop) (D : Nat → Nat → Value → Value → Prop) (T : Nat → Act → World → Prop) (Q : Exit → Act → World → Prop) (i : Nat) (o : Oper) : Prop :=
 ∀ (S : Nat → Prop) a w, (i ≤ m → C w) → (m < i → T (i - 1) a w) → (i < m → ∀ j, S j → Has ops R j a w) → (i = m → ∀ j j', behind ops j i = true → behind ops j' i = true → j ≠ j' → Pair ops D j j' a) → (∀ t, ((List.range ops.size).all fun j => slotOf ops j != some t || behind ops i j) = true → a.eval (.tmp t) = a0.eval (.tmp t)) →
  (∀ j, behind ops j i = true → i ≤ m → Has ops R j a w) →
  o.wp P a w (fun a' w' => ∃ v, a' = a.put o.dst v ∧ (i < m → (o.dst ≠ none → R i v w') ∧ (∀ j d, S j → slotOf ops j = some d → D i j v (a.eval (.tmp d))) ∧ C w' ∧ G w w') ∧ (m ≤ i → T i a w')) Q
def OblAll (P : Program) (ops : Array Oper) (m : Nat) (a0 : Act) (C : World → Prop) (G : World → World → Prop) (R : Nat → Value → World → Prop) (D : Nat → Nat → Value → Value → Prop) (T : Nat → Act → World → Prop) (Q : Exit → Act → World → Prop) : Nat → List Oper → Prop
 | _, [] => True
 | i, o :: l => Obl P ops m a0 C G R D T Q i o ∧ OblAll P ops m a0 C G R D T Q (i + 1) l
theorem OblAll.get {m : Nat} {a0 : Act} {C : World → Prop} {G : World → World → Prop} {R : Nat → Value → World → Prop} {D : Nat → Nat → Value → Value → Prop} {T : Nat → Act → World → Prop} :
  ∀ {l : List Oper} {k : Nat}, OblAll P ops m a0 C G R D T Q k l → ∀ {i : Nat} {o : Oper}, l[i]? = some o → Obl P ops m a0 C G R D T Q (k + i) o
 | [], _, _, _, _, h => by simp at h
 | _ :: _, _, h, 0, _, ho => by simp at ho; subst ho; exact h.1
 | _ :: l, k, h, i + 1, _, ho => by
  have := OblAll.get h.2 (i := i) (by simpa using ho)
  rwa [Nat.add_assoc, Nat.add_comm 1 i] at this
section
variable {m : Nat} {a0 : Act} {C : World → Prop} {G : World → World → Prop} {R : Nat → Value → World → Prop} {D : Nat → Nat → Value → Value → Prop} {T : Nat → Act → World → Prop} {i : Nat} {o : Oper}
theorem Obl.early (hi : decide (i < m) = true) (hn : o.dst.isSome = true) (hDD : ∀ j v v', D i j v v')
  (h : ∀ a w, C w → (∀ t, ((List.range ops.size).all fun j => slotOf ops j != some t || behind ops i j) = true → a.eval (.tmp t) = a0.eval (.tmp t)) →
   (∀ j, behind ops j i = true → Has ops R j a w) → ∀ K : Act → World → Prop, (∀ v w', R i v w' → C w' → G w w' → K (a.put o.dst v) w') → o.wp P a w K Q) : Obl P ops m a0 C G R D T Q i o := by
 have hi' := of_decide_eq_true hi
 intro S a w hC _ _ _ he hd
 refine h a w (hC (by omega)) he (fun j hj => hd j hj (by omega)) _ fun v w' h1 h2 h3 => ⟨v, rfl, fun _ => ⟨fun _ => h1, fun j d _ _ => hDD _ _ _, h2, h3⟩, fun hm => ?_⟩
 omega
theorem Obl.alloc (hi : decide (i < m) = true) (hn : o.dst.isSome = true)
  (h : ∀ (S : Nat → Prop) a w, C w → (∀ j, S j → Has ops R j a w) → ∀ K : Act → World → Prop, (∀ v w', R i v w' → (∀ j d, S j → slotOf ops j = some d → D i j v (a.eval (.tmp d))) → C w' → G w w' → K (a.put o.dst v) w') → o.wp P a w K Q) : Obl P ops m a0 C G R D T Q i o := by
 have hi' := of_decide_eq_true hi
 intro S a w hC _ hS _ he hd
 refine h S a w (hC (by omega)) (hS hi') _ fun v w' h1 h4 h2 h3 => ⟨v, rfl, fun _ => ⟨fun _ => h1, h4, h2, h3⟩, fun hm => ?_⟩
 omega
theorem Obl.first (hi : decide (i = m) = true)
  (h : ∀ a w, C w → (∀ t, ((List.range ops.size).all fun j => slotOf ops j != some t || behind ops i j) = true → a.eval (.tmp t) = a0.eval (.tmp t)) →
   (∀ j, behind ops j i = true → Has ops R j a w) → (∀ j j', behind ops j i = true → behind ops j' i = true → j ≠ j' → Pair ops D j j' a) → ∀ K : Act → World → Prop, (∀ v w', T i a w' → K (a.put o.dst v) w') → o.wp P a w K Q) : Obl P ops m a0 C G R D T Q i o := by
 have hi' := of_decide_eq_true hi
 intro S a w hC _ _ hP he hd
 refine h a w (hC (by omega)) he (fun j hj => hd j hj (by omega)) (hP hi') _ fun v w' h1 => ⟨v, rfl, fun hm => ?_, fun _ => h1⟩
 omega
theorem Obl.next (hi : decide (m < i) = true)
  (h : ∀ a w, T (i - 1) a w → ∀ K : Act → World → Prop, (∀ v w', T i a w' → K (a.put o.dst v) w') → o.wp P a w K Q) : Obl P ops m a0 C G R D T Q i o := by
 have hi' := of_decide_eq_true hi
 intro S a w _ hT _ _ he hd
 refine h a w (hT hi') _ fun v w' h1 => ⟨v, rfl, fun hm => ?_, fun _ => h1⟩
 omega
end
theorem wp_region_inv {id m : Nat} {a0 : Act} {w0 : World} {C : World → Prop} {G : World → World → Prop} {R : Nat → Value → World → Prop} {D : Nat → Nat → Value → Value → Prop} {T : Nat → Act → World → Prop} (hm : P.follows .mixedOrders = true) (ht : Reg2.tidy ops a0.tmps.size = true) (htl : tail ops m = true)
  (hG : ∀ j v w w', C w → G w w' → R j v w → R j v w') (hC : C { w0 with drawn := w0.drawn + 1 })
  (hO : OblAll P ops m a0 C G R D T Q 0 ops.toList)
  (hQ : ∀ a w, a.defers = a0.defers → a.tmps.size = a0.tmps.size → (∀ t, (ops.all fun o => o.dst != some t) = true → a.eval (.tmp t) = a0.eval (.tmp t)) → T (ops.size - 1) a w → Q .normal a w) :
  (Code.region id ops true).wp P Q a0 w0 := by
 unfold Reg2.tidy at ht
 simp only [Bool.and_eq_true] at ht
 obtain ⟨⟨⟨hlow, hgd⟩, hbd⟩, hdis⟩ := ht
 have slot_lt : ∀ {j d}, slotOf ops j = some d → j < ops.size := fun {j d} h => by
  unfold slotOf at h
  cases ho : ops[j]? with
  | none => rw [ho] at h; cases h
  | some o => exact (Array.getElem?_eq_some_iff.1 ho).1
 have slot_bd : ∀ {j d}, slotOf ops j = some d → d < a0.tmps.size := fun {j d} h => by
  have hj := slot_lt h
  have := Array.all_eq_true.1 hbd j hj
  unfold slotOf at h
  rw [Array.getElem?_eq_getElem hj] at h
  simp only [Option.bind_some] at h
  rw [h] at this
  simpa using this
 have slot_ne : ∀ {i j d}, slotOf ops i = some d → slotOf ops j = some d → i = j := fun {i j d} h1 h2 => by
  have a1 := slot_lt h1
  have a2 := slot_lt h2
  have := List.all_eq_true.1 (List.all_eq_true.1 hdis i (List.mem_range.2 a1)) j (List.mem_range.2 a2)
  rw [h1, h2] at this
  simpa using this
 let Inv : Array Bool → Act → World → Prop := fun listed a w => ((∀ j, m ≤ j → listed.getD j false = false) → C w ∧ (∀ j, listed.getD j false = true → Has ops R j a w) ∧ ∀ j j', listed.getD j false = true → listed.getD j' false = true → j ≠ j' → Pair ops D j j' a) ∧ a.defers = a0.defers ∧ a.tmps.size = a0.tmps.size ∧
  (∀ t, (∀ j, slotOf ops j = some t → listed.getD j false = false) → a.eval (.tmp t) = a0.eval (.tmp t)) ∧
  (∀ i j, listed.getD j false = true → behind ops i j = true → listed.getD i false = true) ∧ (∀ j, m ≤ j → j < ops.size → listed.getD j false = true → (∀ j', j < j' → j' < ops.size → listed.getD j' false = false) → T j a w)
 have msz := tail_lt htl
 refine wp_region_any hm (wpAny_inv (Inv := Inv) hlow ?_ ?_ _ _ _ _ (by simp) (by simp) ⟨fun _ => ⟨hC, ?_, ?_⟩, rfl, rfl, fun _ _ => rfl, ?_, ?_⟩)
 ·intro i listed a w hs hi ⟨hCw0, hd, hsz, hext, hcl, hT⟩
  obtain ⟨hun, o, ho, hdeps⟩ := mem_ready.1 hi
  have hilt : i < ops.size := (Array.getElem?_eq_some_iff.1 ho).1
  have hun' : listed.getD i false = false := by
   have : i < listed.size := by omega
   simp [this] at hun ⊢; exact hun
  have hg : o.guard = none := by
   have := Array.all_eq_true.1 hgd i hilt
   rw [Array.getElem?_eq_getElem hilt] at ho
   cases ho
   simpa using this
  have later : ∀ j, m ≤ j → i < j → listed.getD j false = false := fun j h1 h2 => by
   cases hl : listed.getD j false
   ·rfl
   ·exfalso
    have hjs : j < ops.size := by
     have : j < listed.size := by
      cases Nat.lt_or_ge j listed.size with
      | inl h => exact h
      | inr h => simp [Array.getD, Nat.not_lt.2 h] at hl
     omega
    have := tail_all htl hjs h1 hcl hl _ i rfl (by omega)
    rw [hun'] at this; cases this
  have hCw : i ≤ m → C w ∧ (∀ j, listed.getD j false = true → Has ops R j a w) ∧ ∀ j j', listed.getD j false = true → listed.getD j' false = true → j ≠ j' → Pair ops D j j' a := fun hle => hCw0 fun j hj => by
   by_cases e : i = j
   ·rw [← e]; exact hun'
   ·exact later j hj (by omega)
  have hTw : m < i → T (i - 1) a w := fun hlt => by
   have hb : behind ops (i - 1) i = true := by
    obtain ⟨k, h1, h2, h3⟩ := tail_some htl hilt (by omega) (show i - 1 < i by omega)
    obtain rfl : k = i := by omega
    exact h3
   have hl : listed.getD (i - 1) false = true := by
    obtain ⟨e, he, h1, h2⟩ := behind_spec hb ho
    rw [← h1]
    exact hdeps e he h2
   refine hT (i - 1) (by omega) (by omega) hl fun j' hj' _ => ?_
   by_cases e : i = j'
   ·rw [← e]; exact hun'
   ·exact later j' (by omega) (by omega)
  have hob := OblAll.get hO (i := i) (o := o) (by simpa using ho)
  rw [Nat.zero_add] at hob
  have lbeh : ∀ j, behind ops j i = true → listed.getD j false = true := fun j hj => by
   obtain ⟨e, he, h1, h2⟩ := behind_spec hj ho
   rw [← h1]
   exact hdeps e he h2
  have hwp := hob (fun j => listed.getD j false = true) a w (fun h => (hCw h).1) hTw (fun h j hj => (hCw (by omega)).2.1 j hj) (fun h j j' h1 h2 h3 => (hCw (by omega)).2.2 j j' (lbeh j h1) (lbeh j' h2) h3) (fun t htt => hext t fun j hj => by
    have := List.all_eq_true.1 htt j (List.mem_range.2 (slot_lt hj))
    rw [hj] at this
    simp at this
    cases hl : listed.getD j false
    ·rfl
    ·have := hcl i j hl this; rw [hun'] at this; cases this)
   (fun j hj hle => (hCw hle).2.1 j (lbeh j hj))
  unfold wpOp
  rw [ho]
  simp only [Region.wanted, hg, if_true]
  refine .inl (Oper.wp_mono ?_ hwp)
  rintro a' w' ⟨v, rfl, hE, hTi⟩
  have hdst : slotOf ops i = o.dst := by unfold slotOf; rw [ho]; rfl
  have keep : ∀ t, o.dst ≠ some t → (a.put o.dst v).eval (.tmp t) = a.eval (.tmp t) := fun t h => Act.eval_put (fun d hd he => h (by rw [hd]; cases he; rfl))
  have self : (listed.setIfInBounds i true).getD i false = true := by
   have hlt : i < listed.size := by omega
   simp [hlt]
  have lst : ∀ j, (listed.setIfInBounds i true).getD j false = true → j = i ∨ listed.getD j false = true := fun j h => by
   by_cases hji : i = j
   ·exact .inl hji.symm
   ·rw [getD_set_ne false hji] at h; exact .inr h
  refine ⟨fun hno => ?_, ?_, ?_, ?_, ?_, ?_⟩
  ·have him : i < m := by
    cases Nat.lt_or_ge i m with
    | inl h => exact h
    | inr h => have := hno i h; rw [self] at this; cases this
   obtain ⟨hR, hD, hC', hGw⟩ := hE him
   obtain ⟨hCw1, hhas, hpair⟩ := hCw (by omega)
   have newv : ∀ d, slotOf ops i = some d → (a.put o.dst v).eval (.tmp d) = v := fun d hjd => by
    rw [hdst] at hjd
    have hb := slot_bd (j := i) (by rw [hdst]; exact hjd)
    unfold Act.put Act.eval; rw [hjd]; simp; exact fun h => absurd (Nat.lt_of_lt_of_le hb (hsz ▸ h)) (Nat.lt_irrefl _)
   have oldv : ∀ j d, j ≠ i → slotOf ops j = some d → (a.put o.dst v).eval (.tmp d) = a.eval (.tmp d) := fun j d hji hjd => keep d (fun h => hji (slot_ne hjd (show slotOf ops i = some d by rw [hdst]; exact h)))
   refine ⟨hC', fun j hj d hjd => ?_, fun j j' hj hj' hne d d' hjd hjd' => ?_⟩
   rotate_left
   ·by_cases e1 : j = i
    ·by_cases e2 : j' = i
     ·exact absurd (e1.trans e2.symm) hne
     ·subst e1
      rw [newv d hjd, oldv j' d' e2 hjd']
      exact .inl (hD j' d' ((lst j' hj').resolve_left e2) hjd')
    ·by_cases e2 : j' = i
     ·subst e2
      rw [newv d' hjd', oldv j d e1 hjd]
      exact .inr (hD j d ((lst j hj).resolve_left e1) hjd)
     ·rw [oldv j d e1 hjd, oldv j' d' e2 hjd']
      exact hpair j j' ((lst j hj).resolve_left e1) ((lst j' hj').resolve_left e2) hne d d' hjd hjd'
   rcases lst j hj with rfl | hj'
   ·rw [hdst] at hjd
    have hb := slot_bd (j := j) (by rw [hdst]; exact hjd)
    have : (a.put o.dst v).eval (.tmp d) = v := by
     unfold Act.put Act.eval; rw [hjd]; simp; exact fun h => absurd (Nat.lt_of_lt_of_le hb (hsz ▸ h)) (Nat.lt_irrefl _)
    rw [this]; exact hR (by rw [hjd]; simp)
   ·rw [keep d (fun h => by
     have := slot_ne (show slotOf ops i = some d by rw [hdst]; exact h) hjd
     subst this; rw [hun'] at hj'; cases hj')]
    exact hG _ _ _ _ hCw1 hGw (hhas j hj' d hjd)
  ·rw [← hd]; unfold Act.put; split <;> rfl
  ·rw [← hsz]; unfold Act.put; split <;> simp
  ·intro t htt
   rw [keep t (fun h => by
    have := htt i (by rw [hdst]; exact h)
    rw [self] at this; cases this)]
   refine hext t fun j hj => ?_
   have := htt j hj
   cases hl : listed.getD j false
   ·rfl
   ·rw [getD_set_true hl] at this; cases this
  ·intro i' j hj hb
   rcases lst j hj with rfl | hj'
   ·refine getD_set_true ?_
    obtain ⟨e, he, h1, h2⟩ := behind_spec hb ho
    rw [← h1]; exact hdeps e he h2
   ·exact getD_set_true (hcl i' j hj' hb)
  ·intro j hmj hjs hj hno
   rcases lst j hj with rfl | hj'
   ·have hn : o.dst = none := by rw [← hdst]; exact tail_none htl hjs hmj
    have : a.put o.dst v = a := by rw [hn]; rfl
    rw [this]; exact hTi hmj
   ·exfalso
    rcases Nat.lt_trichotomy j i with h | h | h
    ·have := hno i h hilt; rw [self] at this; cases this
    ·subst h; rw [hun'] at hj'; cases hj'
    ·have := later j hmj h; rw [hj'] at this; cases this
 ·intro listed a w hall ⟨_, hd, hsz, hext, _, hT⟩
  refine hQ a w hd hsz (fun t htt => hext t fun j hj => ?_) (hT (ops.size - 1) (by omega) (by omega) (hall _ (by omega)) fun j' hj' hlt => by omega)
  exfalso
  have hlt := slot_lt hj
  have := Array.all_eq_true.1 htt j hlt
  unfold slotOf at hj
  rw [Array.getElem?_eq_getElem hlt] at hj
  simp only [Option.bind_some] at hj
  rw [hj] at this
  simp at this
 ·intro j hj
  simp at hj
  rw [Array.getElem?_replicate] at hj; split at hj <;> simp at hj
 ·intro j j' hj
  simp at hj
  rw [Array.getElem?_replicate] at hj; split at hj <;> simp at hj
 ·intro i j hj
  simp at hj
  rw [Array.getElem?_replicate] at hj; split at hj <;> simp at hj
 ·intro j _ _ hj
  simp at hj
  rw [Array.getElem?_replicate] at hj; split at hj <;> simp at hj
theorem wp_region_mix {id m : Nat} {a0 : Act} {w0 : World} {C : World → Prop} {G : World → World → Prop} {R : Nat → Value → World → Prop} {D : Nat → Nat → Value → Value → Prop} {T : Nat → Act → World → Prop} (mk : List Bool) (hm : P.follows .mixedOrders = true) (ht : Reg2.tidy ops a0.tmps.size = true) (htl : tail ops m = true)
  (hk : maskOk ops mk a0.tmps.size = true)
  (hG : ∀ j v w w', C w → G w w' → R j v w → R j v w') (hC : C { w0 with drawn := w0.drawn + 1 })
  (hO : OblAll P ops m a0 C G R D T Q 0 ops.toList)
  (hQ : ∀ (f : Nat → Value) w, T (ops.size - 1) ⟨(mixL f mk 0 a0.tmps.toList).toArray, a0.defers⟩ w → Q .normal ⟨(mixL f mk 0 a0.tmps.toList).toArray, a0.defers⟩ w) :
  (Code.region id ops true).wp P Q a0 w0 := by
 refine wp_region_inv hm ht htl hG hC hO fun a w hd hsz hext hT => ?_
 unfold maskOk at hk
 simp only [Bool.and_eq_true, beq_iff_eq] at hk
 obtain ⟨hml, hmk⟩ := hk
 have e : a = ⟨(mixL (fun t => a.eval (.tmp t)) mk 0 a0.tmps.toList).toArray, a0.defers⟩ := by
  rw [mixL_eq _ _ _ _ (by simpa using hml) ?_]
  ·cases a with
   | mk tmps defers =>
    simp only [Act.mk.injEq]
    refine ⟨?_, hd⟩
    apply Array.ext'
    apply List.ext_getElem?
    intro i
    simp only at hsz
    by_cases hi : i < tmps.size
    ·have hi' : i < a0.tmps.size := by omega
     simp [hi, hi', Act.eval]
    ·have hi' : ¬ i < a0.tmps.size := by omega
     simp [hi, hi']
  ·intro i hi
   have hlt : i < a0.tmps.size := by
    have := (List.getElem?_eq_some_iff.1 hi).1; omega
   have h1 := List.all_eq_true.1 hmk i (List.mem_range.2 hlt)
   have h2 : mk.getD i false = false := by simp [List.getD, hi]
   rw [h2, Bool.false_or] at h1
   have h3 := hext i h1
   rw [Nat.zero_add, h3]
   simp [Act.eval, hlt]
 rw [e] at hT ⊢
 exact hQ (fun t => a.eval (.tmp t)) w hT
end
end Reg9
end Go.Proofs.YtabccmobmppdnaaGreat
namespace Go.Proofs.YtabccmobmppdnaaGreat
open Go Fk Go.RowKit
set_option linter.unusedVariables false
set_option maxRecDepth 16000
theorem St.setN {w w1 : World} {L : List (Nat × List Value)} {g b : Nat} {X : List C3} {l : List Value} (h : St w ((b, l) :: L) g X w1) (hw : w.heap.size ≤ b) (hd : ∀ x ∈ L, x.1 ≠ b) (i : Nat) (u : Value) : St w ((b, l.set i u) :: L) g X (w1.setCell ⟨b, i, none⟩ u) := by
 have hg : b ≠ g := (h.2.1 b l (.head _)).2.2.2
 refine ⟨h.1.setCell hw _, fun c m hm => ?_, h.2.2.1, h.2.2.2.far hg⟩
 rcases List.mem_cons.1 hm with e | hm
 ·cases e
  exact ⟨(h.mem (.head _)).set i u, fun j => by simp; exact h.free (.head _) j, by simpa using (h.2.1 b l (.head _)).2.2.1, hg⟩
 ·have hne : c ≠ b := hd _ hm
  exact ⟨(h.mem (.tail _ hm)).far (Ne.symm hne), fun j => by simp; exact h.free (.tail _ hm) j, by simpa using (h.2.1 c m (.tail _ hm)).2.2.1, (h.2.1 c m (.tail _ hm)).2.2.2⟩
set_option maxHeartbeats 16000000 in
theorem hinge_forces (w0 : World) (L : List (Nat × List Value)) (fb g n : Nat) (X : List C3) (w : World) (h : St w0 L g X w) (hm : (fb, [Value.slice (some ⟨g, 0, none⟩) n n]) ∈ L) (hn : X.length = n) (hx9 : n ≤ 1048576) (m0 m1 m2 m3 : Nat) (h0 : m0 < n) (h1 : m1 < n) (h2 : m2 < n) (h3 : m3 < n) (bc : Option Nat) (x : Nat) (pa : Option Addr) (pc : Nat) (cs : List C3) (hv : IsVs w0 pa n pc cs) (fx : FV .f32 x bc) :
  Calls Tryz.prog 261 #[.agg #[.int .i64 (m0 : Int), .int .i64 (m1 : Int), .int .i64 (m2 : Int), .int .i64 (m3 : Int), .float .f32 x], .slice pa n pc, .func (.func 170) #[] #[.pointer (some ⟨fb, 0, none⟩)]] w fun e w' => e = .returned (.tuple #[]) ∧ St w0 L g (addAt (addAt (addAt (addAt X m0 (scaleC (lessC (plusC (cs.getD m2 c0) (cs.getD m3 c0)) (plusC (cs.getD m0 c0) (cs.getD m1 c0))) bc)) m1 (scaleC (lessC (plusC (cs.getD m2 c0) (cs.getD m3 c0)) (plusC (cs.getD m0 c0) (cs.getD m1 c0))) bc)) m2 (scaleC (lessC (plusC (cs.getD m2 c0) (cs.getD m3 c0)) (plusC (cs.getD m0 c0) (cs.getD m1 c0))) (negC32 bc))) m3 (scaleC (lessC (plusC (cs.getD m2 c0) (cs.getD m3 c0)) (plusC (cs.getD m0 c0) (cs.getD m1 c0))) (negC32 bc))) w' := by
 have u := Tryz.underlying27
 have uv := Tryz.underlying42
 have uf := Tryz.underlying198
 have uh := Tryz.underlying196
 have JF := Lib.hid (fun (w1 : World) (hv1 : IsVs w1 pa n pc cs) => hinge_fold m0 m1 m2 m3 pa n pc cs w1 hv1 h0 h1 h2 h3)
 generalize lessC (plusC (cs.getD m2 c0) (cs.getD m3 c0)) (plusC (cs.getD m0 c0) (cs.getD m1 c0)) = N at *
 have S1' : St w0 ((w.heap.size, [.int .i64 (m0 : Int), .int .i64 (m1 : Int), .int .i64 (m2 : Int), .int .i64 (m3 : Int), .float .f32 x]) :: L) g X (w.alloc (.cells #[.int .i64 (m0 : Int), .int .i64 (m1 : Int), .int .i64 (m2 : Int), .int .i64 (m3 : Int), .float .f32 x] 198)) := h.box
 have S1 := Lib.hid S1'
 have HM1 := Lib.hid (List.Mem.tail (w.heap.size, ([.int .i64 (m0 : Int), .int .i64 (m1 : Int), .int .i64 (m2 : Int), .int .i64 (m3 : Int), .float .f32 x] : List Value)) hm)
 have HX := Lib.hid hn
 have H0 := Lib.hid h0
 have H1 := Lib.hid h1
 have H2 := Lib.hid h2
 have H3 := Lib.hid h3
 have HV := Lib.hid hv
 have FX := Lib.hid fx
 clear h hm S1' hn h0 h1 h2 h3 hv fx
 go_enter Tryz.func261, Tryz.ntmps261
 have a0 := (S1.out.mem (.head _)) 0 _ rfl
 have a1 := (S1.out.mem (.head _)) 1 _ rfl
 have a2 := (S1.out.mem (.head _)) 2 _ rfl
 have a3 := (S1.out.mem (.head _)) 3 _ rfl
 go_wp2_with fail
 clear a0 a1 a2 a3
 generalize (w.alloc (.cells #[.int .i64 (m0 : Int), .int .i64 (m1 : Int), .int .i64 (m2 : Int), .int .i64 (m3 : Int), .float .f32 x] 198)) = W at *
 generalize w.heap.size = b3 at *
 refine (JF.out W (HV.out.below S1.out.bel)).mono ?_
 rintro e w1 ⟨nx, ny, nz, rfl, hN, hB1⟩
 have S2' : St w0 ((w1.heap.size, [.float .f32 nx, .float .f32 ny, .float .f32 nz]) :: (b3, [.int .i64 (m0 : Int), .int .i64 (m1 : Int), .int .i64 (m2 : Int), .int .i64 (m3 : Int), .float .f32 x]) :: L) g X (w1.alloc (.cells #[.float .f32 nx, .float .f32 ny, .float .f32 nz] 42)) := (S1.out.call hB1).box
 have S2 := Lib.hid S2'
 have HM2 := Lib.hid (List.Mem.tail (w1.heap.size, [Value.float .f32 nx, .float .f32 ny, .float .f32 nz]) HM1.out)
 have HN := Lib.hid hN
 clear hB1 S2' hN S1
 go_wp2_with fail
 generalize (w1.alloc (.cells #[.float .f32 nx, .float .f32 ny, .float .f32 nz] 42)) = W2 at *
 generalize w1.heap.size = V at *
 refine Reg9.wp_region_mix (m := 11) (C := St w0 ((V, [.float .f32 nx, .float .f32 ny, .float .f32 nz]) :: (b3, [.int .i64 (m0 : Int), .int .i64 (m1 : Int), .int .i64 (m2 : Int), .int .i64 (m3 : Int), .float .f32 x]) :: L) g X) (G := fun w1 w2 => Below w1.heap.size w1 w2) (R := fun i' v w' => match i' with | 0 => v = vv nx ny nz | 1 => v = .pointer (some ⟨b3, 4, none⟩) | 2 => v = .float .f32 x | 3 => ∃ p q r, v = vv p q r ∧ F3 p q r (scaleC (N) bc) | 4 => v = vv nx ny nz | 5 => v = .pointer (some ⟨b3, 4, none⟩) | 6 => v = .float .f32 x | 7 => ∃ r, v = .float .f32 r ∧ FV .f32 r (negC32 bc) | 8 => ∃ p q r, v = vv p q r ∧ F3 p q r (scaleC (N) (negC32 bc)) | 9 => ∃ b9, v = .pointer (some ⟨b9, 0, none⟩) ∧ St w0 ((b9, [.float .f32 0, .float .f32 0, .float .f32 0]) :: (V, [.float .f32 nx, .float .f32 ny, .float .f32 nz]) :: (b3, [.int .i64 (m0 : Int), .int .i64 (m1 : Int), .int .i64 (m2 : Int), .int .i64 (m3 : Int), .float .f32 x]) :: L) g X w' ∧ w0.heap.size ≤ b9 ∧ ∀ x9 ∈ ((V, [.float .f32 nx, .float .f32 ny, .float .f32 nz]) :: (b3, [.int .i64 (m0 : Int), .int .i64 (m1 : Int), .int .i64 (m2 : Int), .int .i64 (m3 : Int), .float .f32 x]) :: L), x9.1 < b9 | 10 => ∃ b9, v = .pointer (some ⟨b9, 0, none⟩) ∧ St w0 ((b9, [.float .f32 0, .float .f32 0, .float .f32 0]) :: (V, [.float .f32 nx, .float .f32 ny, .float .f32 nz]) :: (b3, [.int .i64 (m0 : Int), .int .i64 (m1 : Int), .int .i64 (m2 : Int), .int .i64 (m3 : Int), .float .f32 x]) :: L) g X w' ∧ w0.heap.size ≤ b9 ∧ ∀ x9 ∈ ((V, [.float .f32 nx, .float .f32 ny, .float .f32 nz]) :: (b3, [.int .i64 (m0 : Int), .int .i64 (m1 : Int), .int .i64 (m2 : Int), .int .i64 (m3 : Int), .float .f32 x]) :: L), x9.1 < b9 | _ => True) (D := fun j j' v v' => (j = 9 ∧ j' = 10) ∨ (j = 10 ∧ j' = 9) → v ≠ v') (T := fun i' a w' => match i' with | 11 => ∃ b7 b8 p q r p' q' r', a.tmps[7]?.getD undef = .pointer (some ⟨b7, 0, none⟩) ∧ a.tmps[8]?.getD undef = .pointer (some ⟨b8, 0, none⟩) ∧ a.tmps[21]?.getD undef = vv p' q' r' ∧ F3 p q r (scaleC (N) bc) ∧ F3 p' q' r' (scaleC (N) (negC32 bc)) ∧ b7 ≠ b8 ∧ b8 ≠ g ∧ (w0.heap.size ≤ b8 ∧ ∀ x9 ∈ ((V, [.float .f32 nx, .float .f32 ny, .float .f32 nz]) :: (b3, [.int .i64 (m0 : Int), .int .i64 (m1 : Int), .int .i64 (m2 : Int), .int .i64 (m3 : Int), .float .f32 x]) :: L), x9.1 < b8) ∧ b8 < w'.heap.size ∧ At w' b8 [.float .f32 0, .float .f32 0, .float .f32 0] ∧ Fr w' b8 ∧ St w0 ((b7, [.float .f32 p, .float .f32 q, .float .f32 r]) :: (V, [.float .f32 nx, .float .f32 ny, .float .f32 nz]) :: (b3, [.int .i64 (m0 : Int), .int .i64 (m1 : Int), .int .i64 (m2 : Int), .int .i64 (m3 : Int), .float .f32 x]) :: L) g X w' | _ => ∃ b7 b8 p q r p' q' r', a.tmps[7]?.getD undef = .pointer (some ⟨b7, 0, none⟩) ∧ a.tmps[8]?.getD undef = .pointer (some ⟨b8, 0, none⟩) ∧ F3 p q r (scaleC (N) bc) ∧ F3 p' q' r' (scaleC (N) (negC32 bc)) ∧ St w0 ((b8, [.float .f32 p', .float .f32 q', .float .f32 r']) :: (b7, [.float .f32 p, .float .f32 q, .float .f32 r]) :: (V, [.float .f32 nx, .float .f32 ny, .float .f32 nz]) :: (b3, [.int .i64 (m0 : Int), .int .i64 (m1 : Int), .int .i64 (m2 : Int), .int .i64 (m3 : Int), .float .f32 x]) :: L) g X w') [false, false, false, false, false, false, false, true, true, false, false, false, false, true, true, true, true, true, true, true, true, true, false, false, false, false, false, false, false, false, false, false, false, false, false, false, false, false, false, false, false, false, false, false, false, false]
  (by kernel_rfl) (by kernel_rfl) (by kernel_rfl) (by kernel_rfl) ?_ (S2.out.drewN 1) ?_ ?_
 ·intro j9 v9 wa wb _ hG hR
  match j9 with
  | 0 => exact hR
  | 1 => exact hR
  | 2 => exact hR
  | 3 => exact hR
  | 4 => exact hR
  | 5 => exact hR
  | 6 => exact hR
  | 7 => exact hR
  | 8 => exact hR
  | 9 => obtain ⟨b9, e9, h1, h2, h3⟩ := hR; exact ⟨b9, e9, h1.call hG, h2, h3⟩
  | 10 => obtain ⟨b9, e9, h1, h2, h3⟩ := hR; exact ⟨b9, e9, h1.call hG, h2, h3⟩
  | _ + 11 => trivial
 ·refine ⟨Reg9.Obl.early rfl rfl (fun j v v' hh => by omega) ?_, Reg9.Obl.early rfl rfl (fun j v v' hh => by omega) ?_, Reg9.Obl.early rfl rfl (fun j v v' hh => by omega) ?_, Reg9.Obl.early rfl rfl (fun j v v' hh => by omega) ?_, Reg9.Obl.early rfl rfl (fun j v v' hh => by omega) ?_, Reg9.Obl.early rfl rfl (fun j v v' hh => by omega) ?_, Reg9.Obl.early rfl rfl (fun j v v' hh => by omega) ?_, Reg9.Obl.early rfl rfl (fun j v v' hh => by omega) ?_, Reg9.Obl.early rfl rfl (fun j v v' hh => by omega) ?_, Reg9.Obl.alloc rfl rfl ?_, Reg9.Obl.alloc rfl rfl ?_, Reg9.Obl.first rfl ?_, Reg9.Obl.next rfl ?_, trivial⟩
  ·rintro a w1 HC hx hd K hK
   replace HC := Lib.hid HC
   have t6 : a.tmps[6]?.getD undef = .pointer (some ⟨V, 0, none⟩) := Reg.slot_val (hx 6 (by kernel_rfl))
   have x0 := (HC.out.mem (.head _)) 0 _ rfl
   have x1 := (HC.out.mem (.head _)) 1 _ rfl
   have x2 := (HC.out.mem (.head _)) 2 _ rfl
   go_simp
   exact hK _ _ rfl HC.out (Below.refl _ _)
  ·rintro a w1 HC hx hd K hK
   replace HC := Lib.hid HC
   have t3 : a.tmps[3]?.getD undef = .pointer (some ⟨b3, 0, none⟩) := Reg.slot_val (hx 3 (by kernel_rfl))
   go_simp
   exact hK _ _ rfl HC.out (Below.refl _ _)
  ·rintro a w1 HC hx hd K hK
   replace HC := Lib.hid HC
   have t14 : a.tmps[14]?.getD undef = .pointer (some ⟨b3, 4, none⟩) := Reg.slot_val (hd 1 (by kernel_rfl) 14 rfl)
   have y9 := (HC.out.mem (.tail _ (.head _))) 4 _ rfl
   go_simp
   exact hK _ _ rfl HC.out (Below.refl _ _)
  ·rintro a w1 HC hx hd K hK
   replace HC := Lib.hid HC
   have t13 : a.tmps[13]?.getD undef = vv nx ny nz := Reg.slot_val (hd 0 (by kernel_rfl) 13 rfl)
   have t15 : a.tmps[15]?.getD undef = .float .f32 x := Reg.slot_val (hd 2 (by kernel_rfl) 15 rfl)
   go_simp
   refine (impl_ScaleVector _ _ _ _ _ _ _ _ _ HN.out.1 HN.out.2.1 HN.out.2.2 FX.out).mono ?_
   rintro en w2 ⟨p', q', r', rfl, fp', fq', fr', hB2⟩
   exact hK _ _ ⟨p', q', r', rfl, fp', fq', fr'⟩ (HC.out.call hB2) hB2
  ·rintro a w1 HC hx hd K hK
   replace HC := Lib.hid HC
   have t6 : a.tmps[6]?.getD undef = .pointer (some ⟨V, 0, none⟩) := Reg.slot_val (hx 6 (by kernel_rfl))
   have x0 := (HC.out.mem (.head _)) 0 _ rfl
   have x1 := (HC.out.mem (.head _)) 1 _ rfl
   have x2 := (HC.out.mem (.head _)) 2 _ rfl
   go_simp
   exact hK _ _ rfl HC.out (Below.refl _ _)
  ·rintro a w1 HC hx hd K hK
   replace HC := Lib.hid HC
   have t3 : a.tmps[3]?.getD undef = .pointer (some ⟨b3, 0, none⟩) := Reg.slot_val (hx 3 (by kernel_rfl))
   go_simp
   exact hK _ _ rfl HC.out (Below.refl _ _)
  ·rintro a w1 HC hx hd K hK
   replace HC := Lib.hid HC
   have t18 : a.tmps[18]?.getD undef = .pointer (some ⟨b3, 4, none⟩) := Reg.slot_val (hd 5 (by kernel_rfl) 18 rfl)
   have y9 := (HC.out.mem (.tail _ (.head _))) 4 _ rfl
   go_simp
   exact hK _ _ rfl HC.out (Below.refl _ _)
  ·rintro a w1 HC hx hd K hK
   replace HC := Lib.hid HC
   have t19 : a.tmps[19]?.getD undef = .float .f32 x := Reg.slot_val (hd 6 (by kernel_rfl) 19 rfl)
   go_simp
   exact hK _ _ ⟨_, rfl, FV_neg32 FX.out⟩ HC.out (Below.refl _ _)
  ·rintro a w1 HC hx hd K hK
   replace HC := Lib.hid HC
   have t17 : a.tmps[17]?.getD undef = vv nx ny nz := Reg.slot_val (hd 4 (by kernel_rfl) 17 rfl)
   obtain ⟨r20, g20, f20⟩ := hd 7 (by kernel_rfl) 20 rfl
   have t20 := Reg.slot_val g20
   clear g20
   go_simp
   refine (impl_ScaleVector _ _ _ _ _ _ _ _ _ HN.out.1 HN.out.2.1 HN.out.2.2 f20).mono ?_
   rintro en w2 ⟨p', q', r', rfl, fp', fq', fr', hB2⟩
   exact hK _ _ ⟨p', q', r', rfl, fp', fq', fr'⟩ (HC.out.call hB2) hB2
  ·rintro S a w1 hC hS K hK
   have HC := Lib.hid hC
   have HS := Lib.hid hS
   clear hC hS
   go_simp
   have hB2 : Below w1.heap.size w1 (w1.alloc (.cells #[.float .f32 0, .float .f32 0, .float .f32 0] 42)) := (Below.refl _ _).alloc (Nat.le_refl _) _
   refine hK _ _ ⟨w1.heap.size, rfl, HC.out.box, HC.out.bel.size, fun x9 hx9 => (HC.out.2.1 x9.1 x9.2 hx9).2.2.1⟩ (fun j d hj hjd hh => ?_) (HC.out.call hB2) hB2
   obtain rfl : j = 10 := by omega
   have h8 : (some 8 : Option Nat) = some d := hjd
   cases h8
   obtain ⟨b9, e9, h1, _, _⟩ := HS.out _ hj _ hjd
   rw [e9]
   have hlt := (h1.2.1 _ _ (.head _)).2.2.1
   intro hh2
   simp at hh2 <;> omega
  ·rintro S a w1 hC hS K hK
   have HC := Lib.hid hC
   have HS := Lib.hid hS
   clear hC hS
   go_simp
   have hB2 : Below w1.heap.size w1 (w1.alloc (.cells #[.float .f32 0, .float .f32 0, .float .f32 0] 42)) := (Below.refl _ _).alloc (Nat.le_refl _) _
   refine hK _ _ ⟨w1.heap.size, rfl, HC.out.box, HC.out.bel.size, fun x9 hx9 => (HC.out.2.1 x9.1 x9.2 hx9).2.2.1⟩ (fun j d hj hjd hh => ?_) (HC.out.call hB2) hB2
   obtain rfl : j = 9 := by omega
   have h8 : (some 7 : Option Nat) = some d := hjd
   cases h8
   obtain ⟨b9, e9, h1, _, _⟩ := HS.out _ hj _ hjd
   rw [e9]
   have hlt := (h1.2.1 _ _ (.head _)).2.2.1
   intro hh2
   simp at hh2 <;> omega
  ·rintro a w1 hC hx hd hP K hK
   obtain ⟨b7, g7, hs7, hw7, hl7⟩ := hd 9 (by kernel_rfl) 7 rfl
   obtain ⟨b8, g8, hs8, hw8, hl8⟩ := hd 10 (by kernel_rfl) 8 rfl
   obtain ⟨p, q, r, g16, f16⟩ := hd 3 (by kernel_rfl) 16 rfl
   obtain ⟨p', q', r', g21, f21⟩ := hd 8 (by kernel_rfl) 21 rfl
   have hne : b7 ≠ b8 := by
    intro e
    rcases hP 9 10 (by kernel_rfl) (by kernel_rfl) (by decide) 7 8 rfl rfl with h | h
    ·exact h (.inl ⟨rfl, rfl⟩) (by rw [g7, g8, e])
    ·exact h (.inr ⟨rfl, rfl⟩) (by rw [g7, g8, e])
   have t7 := Reg.slot_val g7
   have t8 := Reg.slot_val g8
   have t16 := Reg.slot_val g16
   have t21 := Reg.slot_val g21
   clear g7 g8 g16 g21
   have z0 := (hs7.mem (.head _)) 0 _ rfl
   have z1 := (hs7.mem (.head _)) 1 _ rfl
   have z2 := (hs7.mem (.head _)) 2 _ rfl
   have k0 := hs7.free (.head _) 0
   have k1 := hs7.free (.head _) 1
   have k2 := hs7.free (.head _) 2
   have HS7 := Lib.hid (((hs7.setB hw7 hl7 0 (.float .f32 p)).setB hw7 hl7 1 (.float .f32 q)).setB hw7 hl7 2 (.float .f32 r))
   have HA8 := Lib.hid ((((hs8.mem (.head _)).far (a := ⟨b7, 0, none⟩) (u := .float .f32 p) hne).far (a := ⟨b7, 1, none⟩) (u := .float .f32 q) hne).far (a := ⟨b7, 2, none⟩) (u := .float .f32 r) hne)
   have HF8 : Hid (Fr w1 b8) := Lib.hid (fun j => hs8.free (.head _) j)
   have HL8 := Lib.hid (hs8.2.1 _ _ (.head _)).2.2.1
   have HW8 := Lib.hid (And.intro hw8 hl8)
   have HFF := Lib.hid (And.intro f16 f21)
   have HNE := Lib.hid (And.intro hne (hs8.2.1 _ _ (.head _)).2.2.2)
   have T8 := Lib.hid (And.intro t7 (And.intro t8 t21))
   clear hs7 hs8 hw7 hw8 hl7 hl8 f16 f21 hne hC hx hd hP t8 t21
   go_simp
   exact hK undef _ ⟨b7, b8, p, q, r, p', q', r', T8.out.1, T8.out.2.1, T8.out.2.2, HFF.out.1, HFF.out.2, HNE.out.1, HNE.out.2, HW8.out, by simpa using HL8.out, HA8.out, ((HF8.out.setC).setC).setC, HS7.out⟩
  ·rintro a w1 hT K hK
   obtain ⟨b7, b8, p, q, r, p', q', r', t7, t8, t21, f16, f21, hne, hg8, ⟨hw8, hl8⟩, hlt8, hat, hfr, hs⟩ := hT
   have z0 := hat 0 _ rfl
   have z1 := hat 1 _ rfl
   have z2 := hat 2 _ rfl
   have k0 := hfr 0
   have k1 := hfr 1
   have k2 := hfr 2
   have hs8 : St w0 ((b8, [.float .f32 0, .float .f32 0, .float .f32 0]) :: (b7, [.float .f32 p, .float .f32 q, .float .f32 r]) :: (V, [.float .f32 nx, .float .f32 ny, .float .f32 nz]) :: (b3, [.int .i64 (m0 : Int), .int .i64 (m1 : Int), .int .i64 (m2 : Int), .int .i64 (m3 : Int), .float .f32 x]) :: L) g X w1 := ⟨hs.1, fun c l hm => by
    rcases List.mem_cons.1 hm with e | hm
    ·cases e; exact ⟨hat, hfr, hlt8, hg8⟩
    ·exact hs.2.1 c l hm, hs.2.2⟩
   have hd8 : ∀ x9 ∈ ((b7, [Value.float .f32 p, .float .f32 q, .float .f32 r]) :: (V, [.float .f32 nx, .float .f32 ny, .float .f32 nz]) :: (b3, [.int .i64 (m0 : Int), .int .i64 (m1 : Int), .int .i64 (m2 : Int), .int .i64 (m3 : Int), .float .f32 x]) :: L), x9.1 ≠ b8 := fun x9 hx => by
    rcases List.mem_cons.1 hx with e | hx
    ·rw [e]; exact hne
    ·have := hl8 x9 hx; omega
   have HS8 := Lib.hid (((hs8.setN hw8 hd8 0 (.float .f32 p')).setN hw8 hd8 1 (.float .f32 q')).setN hw8 hd8 2 (.float .f32 r'))
   have T8 := Lib.hid (And.intro t7 t8)
   have HFF := Lib.hid (And.intro f16 f21)
   clear hs8 hd8 hs hw8 hl8 f16 f21 hne hg8 hlt8 hat hfr t7
   go_simp
   exact hK undef _ ⟨b7, b8, p, q, r, p', q', r', T8.out.1, T8.out.2, HFF.out.1, HFF.out.2, HS8.out⟩
 ·rintro f W3 hT
  obtain ⟨b7, b8, p, q, r, p', q', r', e7, e8, f16, f21, hS⟩ := hT
  have g7 : f 7 = .pointer (some ⟨b7, 0, none⟩) := e7
  have g8 : f 8 = .pointer (some ⟨b8, 0, none⟩) := e8
  simp only [Reg.mixL, Nat.zero_add, Nat.reduceAdd, g7, g8]
  have S4 := Lib.hid hS
  have HI7 := Lib.hid f16
  have HO8 := Lib.hid f21
  have HMf := Lib.hid (List.Mem.tail (b8, [Value.float .f32 p', .float .f32 q', .float .f32 r']) (List.Mem.tail (b7, [Value.float .f32 p, .float .f32 q, .float .f32 r]) HM2.out))
  clear e7 e8 g7 g8 hS f16 f21 S2
  generalize hRI : scaleC (N) bc = FI at *
  generalize hRO : scaleC (N) (negC32 bc) = FO at *
  have a0 := (S4.out.mem (.tail _ (.tail _ (.tail _ (.head _))))) 0 _ rfl
  have q0' := (S4.out.mem (.tail _ (.head _))) 0 _ rfl
  have q1' := (S4.out.mem (.tail _ (.head _))) 1 _ rfl
  have q2' := (S4.out.mem (.tail _ (.head _))) 2 _ rfl
  go_wp2_with fail
  clear a0 q0' q1' q2'
  refine (add_force w0 _ fb g m0 n _ _ _ X FI _ S4.out HMf.out HX.out H0.out hx9 HI7.out).mono ?_
  rintro e v0 ⟨rfl, hS⟩
  have S5 := Lib.hid hS
  clear hS
  generalize hX0 : addAt X m0 FI = X0 at *
  have HX0 : Hid (X0.length = n) := Lib.hid (by rw [← hX0, addAt_len]; exact HX.out)
  have a1 := (S5.out.mem (.tail _ (.tail _ (.tail _ (.head _))))) 1 _ rfl
  have q0' := (S5.out.mem (.tail _ (.head _))) 0 _ rfl
  have q1' := (S5.out.mem (.tail _ (.head _))) 1 _ rfl
  have q2' := (S5.out.mem (.tail _ (.head _))) 2 _ rfl
  go_wp2_with fail
  clear a1 q0' q1' q2'
  refine (add_force w0 _ fb g m1 n _ _ _ X0 FI _ S5.out HMf.out HX0.out H1.out hx9 HI7.out).mono ?_
  rintro e v1 ⟨rfl, hS⟩
  have S6 := Lib.hid hS
  clear hS
  generalize hX1 : addAt X0 m1 FI = X1 at *
  have HX1 : Hid (X1.length = n) := Lib.hid (by rw [← hX1, addAt_len]; exact HX0.out)
  have a2 := (S6.out.mem (.tail _ (.tail _ (.tail _ (.head _))))) 2 _ rfl
  have q0' := (S6.out.mem (.head _)) 0 _ rfl
  have q1' := (S6.out.mem (.head _)) 1 _ rfl
  have q2' := (S6.out.mem (.head _)) 2 _ rfl
  go_wp2_with fail
  clear a2 q0' q1' q2'
  refine (add_force w0 _ fb g m2 n _ _ _ X1 FO _ S6.out HMf.out HX1.out H2.out hx9 HO8.out).mono ?_
  rintro e v2 ⟨rfl, hS⟩
  have S7 := Lib.hid hS
  clear hS
  generalize hX2 : addAt X1 m2 FO = X2 at *
  have HX2 : Hid (X2.length = n) := Lib.hid (by rw [← hX2, addAt_len]; exact HX1.out)
  have a3 := (S7.out.mem (.tail _ (.tail _ (.tail _ (.head _))))) 3 _ rfl
  have q0' := (S7.out.mem (.head _)) 0 _ rfl
  have q1' := (S7.out.mem (.head _)) 1 _ rfl
  have q2' := (S7.out.mem (.head _)) 2 _ rfl
  go_wp2_with fail
  clear a3 q0' q1' q2'
  refine (add_force w0 _ fb g m3 n _ _ _ X2 FO _ S7.out HMf.out HX2.out H3.out hx9 HO8.out).mono ?_
  rintro e v3 ⟨rfl, hS⟩
  have S8 := Lib.hid hS
  clear hS
  have H8 := Lib.hid S8.out.drop.drop.drop.drop
  clear S8
  go_wp2
  refine ⟨rfl, .tuple #[], ?_, rfl, by rw [hRI, hRO, hX0, hX1, hX2]; exact H8.out⟩
  first | rfl | (simp [results, Tryz.results261, go_sem]; done) | (simp [results, Tryz.results261, go_sem]; rfl)
end Go.Proofs.YtabccmobmppdnaaGreat
namespace Go.Proofs.YtabccmobmppdnaaGreat
open Go Fk Go.RowKit
set_option linter.unusedVariables false
set_option maxRecDepth 16000
def En.add (cs : List C3) (X : List C3) : En → List C3
 | .sp s => addAt (addAt X s.1.toNat (scaleC (wayC cs s.1 s.2.1) (perC (wayC cs s.1 s.2.1) s.2.2.1 s.2.2.2))) s.2.1.toNat (scaleC (wayC cs s.1 s.2.1) (negC32 (perC (wayC cs s.1 s.2.1) s.2.2.1 s.2.2.2)))
 | .fi t f => addAt (addAt (addAt X (t.getD 0 0).toNat (scaleC (crossC (normalC cs t) (lessC (placeC cs (t.getD 2 0)) (placeC cs (t.getD 1 0)))) (gainC (negC32 (fop .mul .f32 halfC f)) (longC (normalC cs t))))) (t.getD 1 0).toNat (scaleC (crossC (normalC cs t) (lessC (placeC cs (t.getD 0 0)) (placeC cs (t.getD 2 0)))) (gainC (negC32 (fop .mul .f32 halfC f)) (longC (normalC cs t))))) (t.getD 2 0).toNat (scaleC (crossC (normalC cs t) (lessC (placeC cs (t.getD 1 0)) (placeC cs (t.getD 0 0)))) (gainC (negC32 (fop .mul .f32 halfC f)) (longC (normalC cs t))))
 | .hi h b => addAt (addAt (addAt (addAt X (h.getD 0 0).toNat (scaleC (foldC cs h) b)) (h.getD 1 0).toNat (scaleC (foldC cs h) b)) (h.getD 2 0).toNat (scaleC (foldC cs h) (negC32 b))) (h.getD 3 0).toNat (scaleC (foldC cs h) (negC32 b))
 | .we p w f => addAt X p.toNat (scaleC f w)
theorem En.add_len (cs X : List C3) (e : En) : (e.add cs X).length = X.length := by cases e <;> simp [En.add, addAt_len]
theorem add_sp {cs X : List C3} {s : SC} {i j : Nat} (ei : s.1 = (i : Int)) (ej : s.2.1 = (j : Int)) : (En.sp s).add cs X = addAt (addAt X i (scaleC (wayC cs (i : Int) (j : Int)) (perC (wayC cs (i : Int) (j : Int)) s.2.2.1 s.2.2.2))) j (scaleC (wayC cs (i : Int) (j : Int)) (negC32 (perC (wayC cs (i : Int) (j : Int)) s.2.2.1 s.2.2.2))) := by
 simp only [En.add]
 rw [ei, ej, Int.toNat_natCast, Int.toNat_natCast]
theorem add_fi {cs X : List C3} {t : List Int} {f : Option Nat} {m0 m1 m2 : Nat} (h0 : t.getD 0 0 = m0) (h1 : t.getD 1 0 = m1) (h2 : t.getD 2 0 = m2) : (En.fi t f).add cs X = addAt (addAt (addAt X m0 (scaleC (crossC (normalC cs t) (lessC (cs.getD m2 c0) (cs.getD m1 c0))) (gainC (negC32 (fop .mul .f32 halfC f)) (longC (normalC cs t))))) m1 (scaleC (crossC (normalC cs t) (lessC (cs.getD m0 c0) (cs.getD m2 c0))) (gainC (negC32 (fop .mul .f32 halfC f)) (longC (normalC cs t))))) m2 (scaleC (crossC (normalC cs t) (lessC (cs.getD m1 c0) (cs.getD m0 c0))) (gainC (negC32 (fop .mul .f32 halfC f)) (longC (normalC cs t)))) := by
 simp only [En.add, placeC]
 rw [h0, h1, h2]
 simp only [Int.toNat_natCast]
theorem add_hi {cs X : List C3} {h : List Int} {b : Option Nat} {m0 m1 m2 m3 : Nat} (h0 : h.getD 0 0 = m0) (h1 : h.getD 1 0 = m1) (h2 : h.getD 2 0 = m2) (h3 : h.getD 3 0 = m3) : (En.hi h b).add cs X = addAt (addAt (addAt (addAt X m0 (scaleC (lessC (plusC (cs.getD m2 c0) (cs.getD m3 c0)) (plusC (cs.getD m0 c0) (cs.getD m1 c0))) b)) m1 (scaleC (lessC (plusC (cs.getD m2 c0) (cs.getD m3 c0)) (plusC (cs.getD m0 c0) (cs.getD m1 c0))) b)) m2 (scaleC (lessC (plusC (cs.getD m2 c0) (cs.getD m3 c0)) (plusC (cs.getD m0 c0) (cs.getD m1 c0))) (negC32 b))) m3 (scaleC (lessC (plusC (cs.getD m2 c0) (cs.getD m3 c0)) (plusC (cs.getD m0 c0) (cs.getD m1 c0))) (negC32 b)) := by
 simp only [En.add, foldC, placeC]
 rw [h0, h1, h2, h3]
 simp only [Int.toNat_natCast]
theorem add_we {cs X : List C3} {p : Int} {w : Option Nat} {f : C3} {i : Nat} (ei : p = (i : Int)) : (En.we p w f).add cs X = addAt X i (scaleC f w) := by
 simp only [En.add]
 rw [ei, Int.toNat_natCast]
def addsF (cs X : List C3) (es : List En) : List C3 := es.foldl (En.add cs) X
theorem addsF_len (cs : List C3) : ∀ (es : List En) (X : List C3), (addsF cs X es).length = X.length
 | [], X => rfl
 | e :: es, X => by
  show (addsF cs (e.add cs X) es).length = X.length
  rw [addsF_len cs es, En.add_len]
theorem addsF_s (cs X : List C3) (es : List En) {k : Nat} (hk : k < es.length) : addsF cs X (es.take (k + 1)) = (es.getD k (.sp s0)).add cs (addsF cs X (es.take k)) := by
 have e : es.getD k (.sp s0) = es[k] := by simp [List.getD, hk]
 rw [e]
 unfold addsF
 rw [List.take_add_one, List.getElem?_eq_getElem hk, List.foldl_append]
 rfl
set_option maxHeartbeats 8000000 in
theorem impl_sumForces (pa la : Option Addr) (pl pc lc : Nat) (cs : List C3) (es : List En) (w : World) (h : IsVs w pa pl pc cs) (hl : EnS w la es) (hn : es.length ≤ 8192) (hx9 : pl ≤ 1048576) (hok : ∀ j, j < es.length → (es.getD j (.sp s0)).ok pl) :
  Calls Tryz.prog 127 #[.slice la es.length lc, .slice pa pl pc] w fun en w' => ∃ g, en = .returned (.slice (some ⟨g, 0, none⟩) pl pl) ∧ St w [] g (addsF cs (List.replicate pl (some 0, some 0, some 0)) es) w' := by
 have hmk := make_vecs w pl hx9
 have hmf : ∀ (fn : Fn) (first cap : Array Value) (w : World), (Instr.makeFunc fn first cap).run Tryz.prog w = .ok (.func fn first cap) w := fun _ _ _ _ => rfl
 have hS0 : St w [(w.heap.size + 1, [.slice (some ⟨w.heap.size, 0, none⟩) pl pl])] w.heap.size (List.replicate pl (some 0, some 0, some 0)) ((w.alloc (.cells (madeCells #[.float .f32 0, .float .f32 0, .float .f32 0] (pl * 3)) 42)).alloc (.cells #[.slice (some ⟨w.heap.size, 0, none⟩) pl pl] 36)) := by
  have h1 : St w [] w.heap.size (List.replicate pl (some 0, some 0, some 0)) (w.alloc (.cells (madeCells #[.float .f32 0, .float .f32 0, .float .f32 0] (pl * 3)) 42)) := St.of (Bx.nil w) ((Below.refl _ _).alloc (Nat.le_refl _) _) (Nat.le_refl _) (OwnVs.made hx9)
  have := h1.box (vs := [.slice (some ⟨w.heap.size, 0, none⟩) pl pl]) (t := 36)
  simpa using this
 have S0 := Lib.hid hS0
 have HV := Lib.hid h
 have HL := Lib.hid hl
 have HOK := Lib.hid hok
 have HN := Lib.hid hn
 clear h hl hok hn hS0
 go_enter Tryz.func127, Tryz.ntmps127
 go_wp2
 clear hmk
 generalize ((w.alloc (.cells (madeCells #[.float .f32 0, .float .f32 0, .float .f32 0] (pl * 3)) 42)).alloc (.cells #[.slice (some ⟨w.heap.size, 0, none⟩) pl pl] 36)) = W at *
 have hz : (List.replicate pl ((some 0, some 0, some 0) : C3)).length = pl := by simp
 generalize hX0 : List.replicate pl ((some 0, some 0, some 0) : C3) = X0 at S0 hz
 have HX0 := Lib.hid hX0
 have HZ := Lib.hid hz
 generalize hfb : w.heap.size + 1 = fb at *
 generalize hg : w.heap.size = g at S0 ⊢
 clear hX0 hz hfb
 go_loopw [13] (fun i w' => ∃ k : Nat, k ≤ es.length ∧ i = .int .i64 k ∧ Aside (St w [(fb, [.slice (some ⟨g, 0, none⟩) pl pl])] g (addsF cs X0 (es.take k)) w')) (fun i _ => es.length - (intOf i).toNat)
 case atStart => exact ⟨0, Nat.zero_le _, rfl, S0.out⟩
 case round =>
  obtain ⟨k, hk, rfl, hA⟩ := hrel
  have S1 := Lib.hid hA.out
  clear hA S0
  by_cases hlt : k < es.length
  ·have hk0 : (0 : Int) ≤ (k : Int) := by omega
   have hk1 : (k : Int) < (es.length : Int) := by omega
   obtain ⟨lg, u0, rfl, hcell, hu⟩ := (HL.out.below S1.out.bel) k hlt
   have HKS := Lib.hid (addsF_s cs X0 es hlt)
   have hek := HOK.out k hlt
   have HXL : Hid ((addsF cs X0 (List.take k es)).length = pl) := Lib.hid (by rw [addsF_len]; exact HZ.out)
   generalize hX : addsF cs X0 (List.take k es) = X at *
   generalize es.getD k (.sp s0) = e at *
   have hn8 := HN.out
   cases e with
   | sp s =>
    obtain ⟨x, y, rfl, fx, fy⟩ := hu
    obtain ⟨i, ei, hi⟩ := inB_nat hek.1
    obtain ⟨j, ej, hj⟩ := inB_nat hek.2
    have HJ := Lib.hid (fun w1 (hS : St w [(fb, [.slice (some ⟨g, 0, none⟩) pl pl])] g X w1) => spring_forces w _ fb g pl X w1 hS (.head _) HXL.out hx9 i j hi hj s.2.2.1 s.2.2.2 x y pa pc cs HV.out fx fy)
    have HE := Lib.hid (add_sp (cs := cs) (X := X) ei ej)
    rw [ei, ej] at hcell
    clear hek fx fy
    go_wp2_with fail
    refine (HJ.out wr S1.out).mono ?_
    rintro en w2 ⟨rfl, hS⟩
    have S2 : Hid (St w [(fb, [.slice (some ⟨g, 0, none⟩) pl pl])] g (addsF cs X0 (es.take (k + 1))) w2) := Lib.hid (by rw [HKS.out, HE.out]; exact hS)
    clear hS
    go_wp2
    go_roundw
    case rel => exact ⟨k + 1, by omega, by go_num, S2.out⟩
    case measure => simp [intOf]; omega
   | fi t f =>
    obtain ⟨x, rfl, fx⟩ := hu
    obtain ⟨h3, hin⟩ := tri_parts hek
    obtain ⟨t0, l0⟩ := hin 0 (by decide)
    obtain ⟨t1, l1⟩ := hin 1 (by decide)
    obtain ⟨t2, l2⟩ := hin 2 (by decide)
    obtain ⟨m0, hm0⟩ : ∃ m0 : Nat, t.getD 0 0 = m0 := ⟨_, (Int.toNat_of_nonneg t0).symm⟩
    obtain ⟨m1, hm1⟩ : ∃ m1 : Nat, t.getD 1 0 = m1 := ⟨_, (Int.toNat_of_nonneg t1).symm⟩
    obtain ⟨m2, hm2⟩ : ∃ m2 : Nat, t.getD 2 0 = m2 := ⟨_, (Int.toNat_of_nonneg t2).symm⟩
    have HJ := Lib.hid (fun w1 (hS : St w [(fb, [.slice (some ⟨g, 0, none⟩) pl pl])] g X w1) => film_forces w _ fb g pl X w1 hS (.head _) HXL.out hx9 t m0 m1 m2 hm0 hm1 hm2 hek f x pa pc cs HV.out fx)
    have HE := Lib.hid (add_fi (cs := cs) (X := X) (f := f) hm0 hm1 hm2)
    rw [hm0, hm1, hm2] at hcell
    clear hek fx hin h3 t0 t1 t2 l0 l1 l2 hm0 hm1 hm2
    go_wp2_with fail
    refine (HJ.out wr S1.out).mono ?_
    rintro en w2 ⟨rfl, hS⟩
    have S2 : Hid (St w [(fb, [.slice (some ⟨g, 0, none⟩) pl pl])] g (addsF cs X0 (es.take (k + 1))) w2) := Lib.hid (by rw [HKS.out, HE.out]; exact hS)
    clear hS
    go_wp2
    go_roundw
    case rel => exact ⟨k + 1, by omega, by go_num, S2.out⟩
    case measure => simp [intOf]; omega
   | hi hh b =>
    obtain ⟨x, rfl, fx⟩ := hu
    obtain ⟨m0, hm0, hm0'⟩ := inB_nat (hek 0 (by decide))
    obtain ⟨m1, hm1, hm1'⟩ := inB_nat (hek 1 (by decide))
    obtain ⟨m2, hm2, hm2'⟩ := inB_nat (hek 2 (by decide))
    obtain ⟨m3, hm3, hm3'⟩ := inB_nat (hek 3 (by decide))
    have HJ := Lib.hid (fun w1 (hS : St w [(fb, [.slice (some ⟨g, 0, none⟩) pl pl])] g X w1) => hinge_forces w _ fb g pl X w1 hS (.head _) HXL.out hx9 m0 m1 m2 m3 hm0' hm1' hm2' hm3' b x pa pc cs HV.out fx)
    have HE := Lib.hid (add_hi (cs := cs) (X := X) (b := b) hm0 hm1 hm2 hm3)
    rw [hm0, hm1, hm2, hm3] at hcell
    clear hek fx hm0 hm1 hm2 hm3
    go_wp2_with fail
    refine (HJ.out wr S1.out).mono ?_
    rintro en w2 ⟨rfl, hS⟩
    have S2 : Hid (St w [(fb, [.slice (some ⟨g, 0, none⟩) pl pl])] g (addsF cs X0 (es.take (k + 1))) w2) := Lib.hid (by rw [HKS.out, HE.out]; exact hS)
    clear hS
    go_wp2
    go_roundw
    case rel => exact ⟨k + 1, by omega, by go_num, S2.out⟩
    case measure => simp [intOf]; omega
   | we p wc f =>
    obtain ⟨x, ra, rb', rc, rfl, fx, ff⟩ := hu
    obtain ⟨i, ei, hi⟩ := inB_nat hek
    have HJ := Lib.hid (fun w1 (hS : St w [(fb, [.slice (some ⟨g, 0, none⟩) pl pl])] g X w1) => weight_forces w _ fb g pl X w1 hS (.head _) HXL.out hx9 i hi wc f x ra rb' rc (.slice pa pl pc) fx ff)
    have HE := Lib.hid (add_we (cs := cs) (X := X) (w := wc) (f := f) ei)
    rw [ei] at hcell
    clear hek fx ff
    go_wp2_with fail
    refine (HJ.out wr S1.out).mono ?_
    rintro en w2 ⟨rfl, hS⟩
    have S2 : Hid (St w [(fb, [.slice (some ⟨g, 0, none⟩) pl pl])] g (addsF cs X0 (es.take (k + 1))) w2) := Lib.hid (by rw [HKS.out, HE.out]; exact hS)
    clear hS
    go_wp2
    go_roundw
    case rel => exact ⟨k + 1, by omega, by go_num, S2.out⟩
    case measure => simp [intOf]; omega
  ·obtain rfl : k = es.length := by omega
   have a0 := (S1.out.mem (.head _)) 0 _ rfl
   have S9 : Hid (St w [] g (addsF cs X0 es) wr) := Lib.hid (by have := S1.out.drop; rwa [List.take_of_length_le (Nat.le_refl _)] at this)
   go_wp2
   go_ret
   exact ⟨g, rfl, by rw [HX0.out]; exact S9.out⟩
end Go.Proofs.YtabccmobmppdnaaGreat
namespace Go.Proofs.YtabccmobmppdnaaGreat
open Go Fk Go.RowKit
set_option linter.unusedVariables false
set_option maxRecDepth 16000
theorem RV.lowF {base base' : Nat} {w : World} {v : Value} {X : List C3} (h : RV base w v X) (hb : base' ≤ base) : RV base' w v X := by
 obtain ⟨a, cap, e, h1, h2⟩ := h
 exact ⟨a, cap, e, h1, h2.imp id fun ⟨b, e, h3⟩ => ⟨b, e, Nat.le_trans hb h3.1, h3.2⟩⟩
end Go.Proofs.YtabccmobmppdnaaGreat
namespace Go.Proofs.YtabccmobmppdnaaGreat
open Go Fk Go.RowKit
set_option linter.unusedVariables false
set_option maxRecDepth 16000
set_option maxHeartbeats 4000000 in
theorem l03Bent (pb tb to q : Nat) (m0 m1 m2 m3 : Nat) (pa : Option Addr) (pl pc : Nat) (cs : List C3) (w : World) (a0 : w.cell? ⟨pb, 0, none⟩ = some (.slice pa pl pc)) (r0' : w.cell? ⟨tb, to, none⟩ = some (.int .i64 (m0 : Int))) (r1' : w.cell? ⟨tb, to + 1, none⟩ = some (.int .i64 (m1 : Int))) (r2' : w.cell? ⟨tb, to + 2, none⟩ = some (.int .i64 (m2 : Int))) (r3' : w.cell? ⟨tb, to + 3, none⟩ = some (.int .i64 (m3 : Int))) (h : IsVs w pa pl pc cs) (hm0 : m0 < pl) (hm1 : m1 < pl) (hm2 : m2 < pl) (hm3 : m3 < pl) :
  Calls Tryz.prog 169 #[.pointer (some ⟨pb, 0, none⟩), .slice (some ⟨tb, to, none⟩) 4 q] w fun e w' => ∃ x y z, e = .returned (vv x y z) ∧ F3 x y z (lessC (plusC (cs.getD m2 c0) (cs.getD m3 c0)) (plusC (cs.getD m0 c0) (cs.getD m1 c0))) ∧ Below w.heap.size w w' := by
 obtain ⟨pab, pao, rfl, hcell⟩ := h.some (by omega)
 have u := Tryz.underlying27
 have um := Tryz.underlying40
 have uv := Tryz.underlying42
 have hmx : pl ≤ 9223372036854775807 := by have h1 := h.2.1; have h2 := h.2.2.1; unfold maxLen at h2; omega
 have A0 := Lib.hid a0
 have R0 := Lib.hid r0'
 have R1 := Lib.hid r1'
 have R2 := Lib.hid r2'
 have R3 := Lib.hid r3'
 obtain ⟨p0, q0, r0, i00, i01, i02, f0⟩ := hcell m0 hm0
 have D0 := Lib.hid (And.intro i00 (And.intro i01 i02))
 have F0' := Lib.hid f0
 have g00 : (0 : Int) ≤ (m0 : Int) := by omega
 have g01 : (m0 : Int) < (pl : Int) := by omega
 obtain ⟨p1, q1, r1, i10, i11, i12, f1⟩ := hcell m1 hm1
 have D1 := Lib.hid (And.intro i10 (And.intro i11 i12))
 have F1' := Lib.hid f1
 have g10 : (0 : Int) ≤ (m1 : Int) := by omega
 have g11 : (m1 : Int) < (pl : Int) := by omega
 obtain ⟨p2, q2, r2, i20, i21, i22, f2⟩ := hcell m2 hm2
 have D2 := Lib.hid (And.intro i20 (And.intro i21 i22))
 have F2' := Lib.hid f2
 have g20 : (0 : Int) ≤ (m2 : Int) := by omega
 have g21 : (m2 : Int) < (pl : Int) := by omega
 obtain ⟨p3, q3, r3, i30, i31, i32, f3⟩ := hcell m3 hm3
 have D3 := Lib.hid (And.intro i30 (And.intro i31 i32))
 have F3' := Lib.hid f3
 have g30 : (0 : Int) ≤ (m3 : Int) := by omega
 have g31 : (m3 : Int) < (pl : Int) := by omega
 clear a0 h hcell r0' i00 i01 i02 f0 r1' i10 i11 i12 f1 r2' i20 i21 i22 f2 r3' i30 i31 i32 f3
 have FR : Hid (Frm w [] w.heap.size (w.alloc (.cells #[.float .f32 0, .float .f32 0, .float .f32 0] 42))) := Lib.hid ⟨(Below.refl _ _).alloc (Nat.le_refl _) _, fun b l hm => (by cases hm), Nat.le_refl _, ⟨.float .f32 0, .float .f32 0, .float .f32 0, by go_simp, by go_simp, by go_simp⟩, fun i => by go_simp⟩
 go_enter Tryz.func169, Tryz.ntmps169
 go_wp2_with fail
 generalize (w.alloc (.cells #[.float .f32 0, .float .f32 0, .float .f32 0] 42)) = W at *
 refine Reg2.wp_region_mix (C := Frm w [] (w.heap.size)) (G := fun w1 w2 => TV (w.heap.size) (lessC (plusC (cs.getD m2 c0) (cs.getD m3 c0)) (plusC (cs.getD m0 c0) (cs.getD m1 c0))) w1 → TV (w.heap.size) (lessC (plusC (cs.getD m2 c0) (cs.getD m3 c0)) (plusC (cs.getD m0 c0) (cs.getD m1 c0))) w2) (R := fun i v w' => match i with | 0 => v = .pointer (some ⟨pb, 0, none⟩) | 1 => v = .pointer (some ⟨pb, 0, none⟩) | 2 => v = .pointer (some ⟨pb, 0, none⟩) | 3 => v = .slice (some ⟨pab, pao, none⟩) pl pc | 4 => v = .slice (some ⟨tb, to, none⟩) 4 q | 5 => v = .pointer (some ⟨tb, to + 2, none⟩) | 6 => v = .int .i64 (m2 : Int) | 7 => v = .pointer (some ⟨pab, pao + m2 * 3, none⟩) | 8 => v = vv p2 q2 r2 | 9 => v = .pointer (some ⟨pb, 0, none⟩) | 10 => v = .pointer (some ⟨pb, 0, none⟩) | 11 => v = .pointer (some ⟨pb, 0, none⟩) | 12 => v = .slice (some ⟨pab, pao, none⟩) pl pc | 13 => v = .slice (some ⟨tb, to, none⟩) 4 q | 14 => v = .pointer (some ⟨tb, to + 3, none⟩) | 15 => v = .int .i64 (m3 : Int) | 16 => v = .pointer (some ⟨pab, pao + m3 * 3, none⟩) | 17 => v = vv p3 q3 r3 | 18 => ∃ p q r, v = vv p q r ∧ F3 p q r (plusC (cs.getD m2 c0) (cs.getD m3 c0)) | 19 => v = .pointer (some ⟨pb, 0, none⟩) | 20 => v = .pointer (some ⟨pb, 0, none⟩) | 21 => v = .pointer (some ⟨pb, 0, none⟩) | 22 => v = .slice (some ⟨pab, pao, none⟩) pl pc | 23 => v = .slice (some ⟨tb, to, none⟩) 4 q | 24 => v = .pointer (some ⟨tb, to, none⟩) | 25 => v = .int .i64 (m0 : Int) | 26 => v = .pointer (some ⟨pab, pao + m0 * 3, none⟩) | 27 => v = vv p0 q0 r0 | 28 => v = .pointer (some ⟨pb, 0, none⟩) | 29 => v = .pointer (some ⟨pb, 0, none⟩) | 30 => v = .pointer (some ⟨pb, 0, none⟩) | 31 => v = .slice (some ⟨pab, pao, none⟩) pl pc | 32 => v = .slice (some ⟨tb, to, none⟩) 4 q | 33 => v = .pointer (some ⟨tb, to + 1, none⟩) | 34 => v = .int .i64 (m1 : Int) | 35 => v = .pointer (some ⟨pab, pao + m1 * 3, none⟩) | 36 => v = vv p1 q1 r1 | 37 => ∃ p q r, v = vv p q r ∧ F3 p q r (plusC (cs.getD m0 c0) (cs.getD m1 c0)) | 38 => ∃ p q r, v = vv p q r ∧ F3 p q r (lessC (plusC (cs.getD m2 c0) (cs.getD m3 c0)) (plusC (cs.getD m0 c0) (cs.getD m1 c0))) | _ => True) (T := fun _ w' => TV (w.heap.size) (lessC (plusC (cs.getD m2 c0) (cs.getD m3 c0)) (plusC (cs.getD m0 c0) (cs.getD m1 c0))) w') [false, false, false, false, false, true, true, true, true, true, true, true, true, true, true, true, true, true, true, true, true, true, true, true, true, true, true, true, true, true, true, true, true, true, true, true, true, true, true, true, true, true, true, true]
  (by kernel_rfl) (by kernel_rfl) (by kernel_rfl) (fun _ _ _ _ _ _ h => h) (fun _ _ _ _ hG hT => hG hT) (Frm.drewN FR.out 1) ?_ ?_
 ·refine ⟨Reg2.Obl.mk ?_, Reg2.Obl.mk ?_, Reg2.Obl.mk ?_, Reg2.Obl.mk ?_, Reg2.Obl.mk ?_, Reg2.Obl.mk ?_, Reg2.Obl.mk ?_, Reg2.Obl.mk ?_, Reg2.Obl.mk ?_, Reg2.Obl.mk ?_, Reg2.Obl.mk ?_, Reg2.Obl.mk ?_, Reg2.Obl.mk ?_, Reg2.Obl.mk ?_, Reg2.Obl.mk ?_, Reg2.Obl.mk ?_, Reg2.Obl.mk ?_, Reg2.Obl.mk ?_, Reg2.Obl.mk ?_, Reg2.Obl.mk ?_, Reg2.Obl.mk ?_, Reg2.Obl.mk ?_, Reg2.Obl.mk ?_, Reg2.Obl.mk ?_, Reg2.Obl.mk ?_, Reg2.Obl.mk ?_, Reg2.Obl.mk ?_, Reg2.Obl.mk ?_, Reg2.Obl.mk ?_, Reg2.Obl.mk ?_, Reg2.Obl.mk ?_, Reg2.Obl.mk ?_, Reg2.Obl.mk ?_, Reg2.Obl.mk ?_, Reg2.Obl.mk ?_, Reg2.Obl.mk ?_, Reg2.Obl.mk ?_, Reg2.Obl.mk ?_, Reg2.Obl.mk ?_, Reg2.Obl.mk ?_, trivial⟩
  ·rintro a w1 HC hx hd K hK
   replace HC := Lib.hid HC
   have t0 : a.tmps[0]?.getD undef = .pointer (some ⟨pb, 0, none⟩) := Reg.slot_val (hx 0 (by kernel_rfl))
   go_simp
   exact hK _ _ (fun _ => rfl) (fun h => by cases h) HC.out (fun h => h)
  ·rintro a w1 HC hx hd K hK
   replace HC := Lib.hid HC
   have t5 : a.tmps[5]?.getD undef = .pointer (some ⟨pb, 0, none⟩) := Reg.slot_val (hd 0 (by kernel_rfl) 5 rfl)
   go_simp
   exact hK _ _ (fun _ => rfl) (fun h => by cases h) HC.out (fun h => h)
  ·rintro a w1 HC hx hd K hK
   replace HC := Lib.hid HC
   have t6 : a.tmps[6]?.getD undef = .pointer (some ⟨pb, 0, none⟩) := Reg.slot_val (hd 1 (by kernel_rfl) 6 rfl)
   go_simp
   exact hK _ _ (fun _ => rfl) (fun h => by cases h) HC.out (fun h => h)
  ·rintro a w1 HC hx hd K hK
   replace HC := Lib.hid HC
   have y9 := cell_below HC.out.bel A0.out
   have t7 : a.tmps[7]?.getD undef = .pointer (some ⟨pb, 0, none⟩) := Reg.slot_val (hd 2 (by kernel_rfl) 7 rfl)
   go_simp
   exact hK _ _ (fun _ => rfl) (fun h => by cases h) HC.out (fun h => h)
  ·rintro a w1 HC hx hd K hK
   replace HC := Lib.hid HC
   have t1 : a.tmps[1]?.getD undef = .slice (some ⟨tb, to, none⟩) 4 q := Reg.slot_val (hx 1 (by kernel_rfl))
   go_simp
   exact hK _ _ (fun _ => rfl) (fun h => by cases h) HC.out (fun h => h)
  ·rintro a w1 HC hx hd K hK
   replace HC := Lib.hid HC
   have t9 : a.tmps[9]?.getD undef = .slice (some ⟨tb, to, none⟩) 4 q := Reg.slot_val (hd 4 (by kernel_rfl) 9 rfl)
   go_simp
   exact hK _ _ (fun _ => rfl) (fun h => by cases h) HC.out (fun h => h)
  ·rintro a w1 HC hx hd K hK
   replace HC := Lib.hid HC
   have z2 := cell_below HC.out.bel R2.out
   have t10 : a.tmps[10]?.getD undef = .pointer (some ⟨tb, to + 2, none⟩) := Reg.slot_val (hd 5 (by kernel_rfl) 10 rfl)
   go_simp
   exact hK _ _ (fun _ => rfl) (fun h => by cases h) HC.out (fun h => h)
  ·rintro a w1 HC hx hd K hK
   replace HC := Lib.hid HC
   have t8 : a.tmps[8]?.getD undef = .slice (some ⟨pab, pao, none⟩) pl pc := Reg.slot_val (hd 3 (by kernel_rfl) 8 rfl)
   have t11 : a.tmps[11]?.getD undef = .int .i64 (m2 : Int) := Reg.slot_val (hd 6 (by kernel_rfl) 11 rfl)
   go_simp
   exact hK _ _ (fun _ => rfl) (fun h => by cases h) HC.out (fun h => h)
  ·rintro a w1 HC hx hd K hK
   replace HC := Lib.hid HC
   have y0 := cell_below HC.out.bel D2.out.1
   have y1 := cell_below HC.out.bel D2.out.2.1
   have y2 := cell_below HC.out.bel D2.out.2.2
   have t12 : a.tmps[12]?.getD undef = .pointer (some ⟨pab, pao + m2 * 3, none⟩) := Reg.slot_val (hd 7 (by kernel_rfl) 12 rfl)
   go_simp
   exact hK _ _ (fun _ => rfl) (fun h => by cases h) HC.out (fun h => h)
  ·rintro a w1 HC hx hd K hK
   replace HC := Lib.hid HC
   have t0 : a.tmps[0]?.getD undef = .pointer (some ⟨pb, 0, none⟩) := Reg.slot_val (hx 0 (by kernel_rfl))
   go_simp
   exact hK _ _ (fun _ => rfl) (fun h => by cases h) HC.out (fun h => h)
  ·rintro a w1 HC hx hd K hK
   replace HC := Lib.hid HC
   have t14 : a.tmps[14]?.getD undef = .pointer (some ⟨pb, 0, none⟩) := Reg.slot_val (hd 9 (by kernel_rfl) 14 rfl)
   go_simp
   exact hK _ _ (fun _ => rfl) (fun h => by cases h) HC.out (fun h => h)
  ·rintro a w1 HC hx hd K hK
   replace HC := Lib.hid HC
   have t15 : a.tmps[15]?.getD undef = .pointer (some ⟨pb, 0, none⟩) := Reg.slot_val (hd 10 (by kernel_rfl) 15 rfl)
   go_simp
   exact hK _ _ (fun _ => rfl) (fun h => by cases h) HC.out (fun h => h)
  ·rintro a w1 HC hx hd K hK
   replace HC := Lib.hid HC
   have y9 := cell_below HC.out.bel A0.out
   have t16 : a.tmps[16]?.getD undef = .pointer (some ⟨pb, 0, none⟩) := Reg.slot_val (hd 11 (by kernel_rfl) 16 rfl)
   go_simp
   exact hK _ _ (fun _ => rfl) (fun h => by cases h) HC.out (fun h => h)
  ·rintro a w1 HC hx hd K hK
   replace HC := Lib.hid HC
   have t1 : a.tmps[1]?.getD undef = .slice (some ⟨tb, to, none⟩) 4 q := Reg.slot_val (hx 1 (by kernel_rfl))
   go_simp
   exact hK _ _ (fun _ => rfl) (fun h => by cases h) HC.out (fun h => h)
  ·rintro a w1 HC hx hd K hK
   replace HC := Lib.hid HC
   have t18 : a.tmps[18]?.getD undef = .slice (some ⟨tb, to, none⟩) 4 q := Reg.slot_val (hd 13 (by kernel_rfl) 18 rfl)
   go_simp
   exact hK _ _ (fun _ => rfl) (fun h => by cases h) HC.out (fun h => h)
  ·rintro a w1 HC hx hd K hK
   replace HC := Lib.hid HC
   have z3 := cell_below HC.out.bel R3.out
   have t19 : a.tmps[19]?.getD undef = .pointer (some ⟨tb, to + 3, none⟩) := Reg.slot_val (hd 14 (by kernel_rfl) 19 rfl)
   go_simp
   exact hK _ _ (fun _ => rfl) (fun h => by cases h) HC.out (fun h => h)
  ·rintro a w1 HC hx hd K hK
   replace HC := Lib.hid HC
   have t17 : a.tmps[17]?.getD undef = .slice (some ⟨pab, pao, none⟩) pl pc := Reg.slot_val (hd 12 (by kernel_rfl) 17 rfl)
   have t20 : a.tmps[20]?.getD undef = .int .i64 (m3 : Int) := Reg.slot_val (hd 15 (by kernel_rfl) 20 rfl)
   go_simp
   exact hK _ _ (fun _ => rfl) (fun h => by cases h) HC.out (fun h => h)
  ·rintro a w1 HC hx hd K hK
   replace HC := Lib.hid HC
   have y0 := cell_below HC.out.bel D3.out.1
   have y1 := cell_below HC.out.bel D3.out.2.1
   have y2 := cell_below HC.out.bel D3.out.2.2
   have t21 : a.tmps[21]?.getD undef = .pointer (some ⟨pab, pao + m3 * 3, none⟩) := Reg.slot_val (hd 16 (by kernel_rfl) 21 rfl)
   go_simp
   exact hK _ _ (fun _ => rfl) (fun h => by cases h) HC.out (fun h => h)
  ·rintro a w1 HC hx hd K hK
   replace HC := Lib.hid HC
   have t13 : a.tmps[13]?.getD undef = vv p2 q2 r2 := Reg.slot_val (hd 8 (by kernel_rfl) 13 rfl)
   have t22 : a.tmps[22]?.getD undef = vv p3 q3 r3 := Reg.slot_val (hd 17 (by kernel_rfl) 22 rfl)
   go_simp
   refine (l01Add _ _ _ _ _ _ _ _ _ _ _ _ _ F2'.out.1 F2'.out.2.1 F2'.out.2.2 F3'.out.1 F3'.out.2.1 F3'.out.2.2).mono ?_
   rintro en w2 ⟨p', q', r', rfl, fp', fq', fr', hB2⟩
   exact hK _ _ (fun _ => ⟨p', q', r', rfl, fp', fq', fr'⟩) (fun h => by cases h) (HC.out.call hB2) (TV.call hB2)
  ·rintro a w1 HC hx hd K hK
   replace HC := Lib.hid HC
   have t0 : a.tmps[0]?.getD undef = .pointer (some ⟨pb, 0, none⟩) := Reg.slot_val (hx 0 (by kernel_rfl))
   go_simp
   exact hK _ _ (fun _ => rfl) (fun h => by cases h) HC.out (fun h => h)
  ·rintro a w1 HC hx hd K hK
   replace HC := Lib.hid HC
   have t24 : a.tmps[24]?.getD undef = .pointer (some ⟨pb, 0, none⟩) := Reg.slot_val (hd 19 (by kernel_rfl) 24 rfl)
   go_simp
   exact hK _ _ (fun _ => rfl) (fun h => by cases h) HC.out (fun h => h)
  ·rintro a w1 HC hx hd K hK
   replace HC := Lib.hid HC
   have t25 : a.tmps[25]?.getD undef = .pointer (some ⟨pb, 0, none⟩) := Reg.slot_val (hd 20 (by kernel_rfl) 25 rfl)
   go_simp
   exact hK _ _ (fun _ => rfl) (fun h => by cases h) HC.out (fun h => h)
  ·rintro a w1 HC hx hd K hK
   replace HC := Lib.hid HC
   have y9 := cell_below HC.out.bel A0.out
   have t26 : a.tmps[26]?.getD undef = .pointer (some ⟨pb, 0, none⟩) := Reg.slot_val (hd 21 (by kernel_rfl) 26 rfl)
   go_simp
   exact hK _ _ (fun _ => rfl) (fun h => by cases h) HC.out (fun h => h)
  ·rintro a w1 HC hx hd K hK
   replace HC := Lib.hid HC
   have t1 : a.tmps[1]?.getD undef = .slice (some ⟨tb, to, none⟩) 4 q := Reg.slot_val (hx 1 (by kernel_rfl))
   go_simp
   exact hK _ _ (fun _ => rfl) (fun h => by cases h) HC.out (fun h => h)
  ·rintro a w1 HC hx hd K hK
   replace HC := Lib.hid HC
   have t28 : a.tmps[28]?.getD undef = .slice (some ⟨tb, to, none⟩) 4 q := Reg.slot_val (hd 23 (by kernel_rfl) 28 rfl)
   go_simp
   exact hK _ _ (fun _ => rfl) (fun h => by cases h) HC.out (fun h => h)
  ·rintro a w1 HC hx hd K hK
   replace HC := Lib.hid HC
   have z0 := cell_below HC.out.bel R0.out
   have t29 : a.tmps[29]?.getD undef = .pointer (some ⟨tb, to, none⟩) := Reg.slot_val (hd 24 (by kernel_rfl) 29 rfl)
   go_simp
   exact hK _ _ (fun _ => rfl) (fun h => by cases h) HC.out (fun h => h)
  ·rintro a w1 HC hx hd K hK
   replace HC := Lib.hid HC
   have t27 : a.tmps[27]?.getD undef = .slice (some ⟨pab, pao, none⟩) pl pc := Reg.slot_val (hd 22 (by kernel_rfl) 27 rfl)
   have t30 : a.tmps[30]?.getD undef = .int .i64 (m0 : Int) := Reg.slot_val (hd 25 (by kernel_rfl) 30 rfl)
   go_simp
   exact hK _ _ (fun _ => rfl) (fun h => by cases h) HC.out (fun h => h)
  ·rintro a w1 HC hx hd K hK
   replace HC := Lib.hid HC
   have y0 := cell_below HC.out.bel D0.out.1
   have y1 := cell_below HC.out.bel D0.out.2.1
   have y2 := cell_below HC.out.bel D0.out.2.2
   have t31 : a.tmps[31]?.getD undef = .pointer (some ⟨pab, pao + m0 * 3, none⟩) := Reg.slot_val (hd 26 (by kernel_rfl) 31 rfl)
   go_simp
   exact hK _ _ (fun _ => rfl) (fun h => by cases h) HC.out (fun h => h)
  ·rintro a w1 HC hx hd K hK
   replace HC := Lib.hid HC
   have t0 : a.tmps[0]?.getD undef = .pointer (some ⟨pb, 0, none⟩) := Reg.slot_val (hx 0 (by kernel_rfl))
   go_simp
   exact hK _ _ (fun _ => rfl) (fun h => by cases h) HC.out (fun h => h)
  ·rintro a w1 HC hx hd K hK
   replace HC := Lib.hid HC
   have t33 : a.tmps[33]?.getD undef = .pointer (some ⟨pb, 0, none⟩) := Reg.slot_val (hd 28 (by kernel_rfl) 33 rfl)
   go_simp
   exact hK _ _ (fun _ => rfl) (fun h => by cases h) HC.out (fun h => h)
  ·rintro a w1 HC hx hd K hK
   replace HC := Lib.hid HC
   have t34 : a.tmps[34]?.getD undef = .pointer (some ⟨pb, 0, none⟩) := Reg.slot_val (hd 29 (by kernel_rfl) 34 rfl)
   go_simp
   exact hK _ _ (fun _ => rfl) (fun h => by cases h) HC.out (fun h => h)
  ·rintro a w1 HC hx hd K hK
   replace HC := Lib.hid HC
   have y9 := cell_below HC.out.bel A0.out
   have t35 : a.tmps[35]?.getD undef = .pointer (some ⟨pb, 0, none⟩) := Reg.slot_val (hd 30 (by kernel_rfl) 35 rfl)
   go_simp
   exact hK _ _ (fun _ => rfl) (fun h => by cases h) HC.out (fun h => h)
  ·rintro a w1 HC hx hd K hK
   replace HC := Lib.hid HC
   have t1 : a.tmps[1]?.getD undef = .slice (some ⟨tb, to, none⟩) 4 q := Reg.slot_val (hx 1 (by kernel_rfl))
   go_simp
   exact hK _ _ (fun _ => rfl) (fun h => by cases h) HC.out (fun h => h)
  ·rintro a w1 HC hx hd K hK
   replace HC := Lib.hid HC
   have t37 : a.tmps[37]?.getD undef = .slice (some ⟨tb, to, none⟩) 4 q := Reg.slot_val (hd 32 (by kernel_rfl) 37 rfl)
   go_simp
   exact hK _ _ (fun _ => rfl) (fun h => by cases h) HC.out (fun h => h)
  ·rintro a w1 HC hx hd K hK
   replace HC := Lib.hid HC
   have z1 := cell_below HC.out.bel R1.out
   have t38 : a.tmps[38]?.getD undef = .pointer (some ⟨tb, to + 1, none⟩) := Reg.slot_val (hd 33 (by kernel_rfl) 38 rfl)
   go_simp
   exact hK _ _ (fun _ => rfl) (fun h => by cases h) HC.out (fun h => h)
  ·rintro a w1 HC hx hd K hK
   replace HC := Lib.hid HC
   have t36 : a.tmps[36]?.getD undef = .slice (some ⟨pab, pao, none⟩) pl pc := Reg.slot_val (hd 31 (by kernel_rfl) 36 rfl)
   have t39 : a.tmps[39]?.getD undef = .int .i64 (m1 : Int) := Reg.slot_val (hd 34 (by kernel_rfl) 39 rfl)
   go_simp
   exact hK _ _ (fun _ => rfl) (fun h => by cases h) HC.out (fun h => h)
  ·rintro a w1 HC hx hd K hK
   replace HC := Lib.hid HC
   have y0 := cell_below HC.out.bel D1.out.1
   have y1 := cell_below HC.out.bel D1.out.2.1
   have y2 := cell_below HC.out.bel D1.out.2.2
   have t40 : a.tmps[40]?.getD undef = .pointer (some ⟨pab, pao + m1 * 3, none⟩) := Reg.slot_val (hd 35 (by kernel_rfl) 40 rfl)
   go_simp
   exact hK _ _ (fun _ => rfl) (fun h => by cases h) HC.out (fun h => h)
  ·rintro a w1 HC hx hd K hK
   replace HC := Lib.hid HC
   have t32 : a.tmps[32]?.getD undef = vv p0 q0 r0 := Reg.slot_val (hd 27 (by kernel_rfl) 32 rfl)
   have t41 : a.tmps[41]?.getD undef = vv p1 q1 r1 := Reg.slot_val (hd 36 (by kernel_rfl) 41 rfl)
   go_simp
   refine (l01Add _ _ _ _ _ _ _ _ _ _ _ _ _ F0'.out.1 F0'.out.2.1 F0'.out.2.2 F1'.out.1 F1'.out.2.1 F1'.out.2.2).mono ?_
   rintro en w2 ⟨p', q', r', rfl, fp', fq', fr', hB2⟩
   exact hK _ _ (fun _ => ⟨p', q', r', rfl, fp', fq', fr'⟩) (fun h => by cases h) (HC.out.call hB2) (TV.call hB2)
  ·rintro a w1 HC hx hd K hK
   replace HC := Lib.hid HC
   obtain ⟨p23, q23, r23, g23, f23⟩ := hd 18 (by kernel_rfl) 23 rfl
   have t23 := Reg.slot_val g23
   clear g23
   obtain ⟨p42, q42, r42, g42, f42⟩ := hd 37 (by kernel_rfl) 42 rfl
   have t42 := Reg.slot_val g42
   clear g42
   go_simp
   refine (l01Less _ _ _ _ _ _ _ _ _ _ _ _ _ f23.1 f23.2.1 f23.2.2 f42.1 f42.2.1 f42.2.2).mono ?_
   rintro en w2 ⟨p', q', r', rfl, fp', fq', fr', hB2⟩
   exact hK _ _ (fun _ => ⟨p', q', r', rfl, fp', fq', fr'⟩) (fun h => by cases h) (HC.out.call hB2) (TV.call hB2)
  ·rintro a w1 HC hx hd K hK
   replace HC := Lib.hid HC
   have t4 : a.tmps[4]?.getD undef = .pointer (some ⟨w.heap.size, 0, none⟩) := Reg.slot_val (hx 4 (by kernel_rfl))
   obtain ⟨p43, q43, r43, g43, f43⟩ := hd 38 (by kernel_rfl) 43 rfl
   have t43 := Reg.slot_val g43
   clear g43
   obtain ⟨u0, u1, u2, x0, x1, x2⟩ := HC.out.cells
   have k0 := HC.out.free 0
   have k1 := HC.out.free 1
   have k2 := HC.out.free 2
   go_simp
   exact hK undef _ (fun h => absurd rfl h) (fun _ => TV.put HC.out f43) (HC.out.put _ _ _) (fun _ => TV.put HC.out f43)
 ·rintro f w1 hC hd' hT
  obtain ⟨x, y, z, ⟨x0, x1, x2⟩, hf⟩ := hT 39 rfl (by decide)
  simp only [Reg.mixL]
  have HC := Lib.hid hC
  clear hC hd' hT
  go_wp2
  refine bodyPost_ret (v := vv x y z) (by simp [results, Tryz.results169, go_sem, x0, x1, x2]) rfl ⟨x, y, z, rfl, hf, HC.out.bel⟩
set_option maxHeartbeats 4000000 in
theorem l03Normal (pb tb to q : Nat) (m0 m1 m2 : Nat) (pa : Option Addr) (pl pc : Nat) (cs : List C3) (w : World) (a0 : w.cell? ⟨pb, 0, none⟩ = some (.slice pa pl pc)) (r0' : w.cell? ⟨tb, to, none⟩ = some (.int .i64 (m0 : Int))) (r1' : w.cell? ⟨tb, to + 1, none⟩ = some (.int .i64 (m1 : Int))) (r2' : w.cell? ⟨tb, to + 2, none⟩ = some (.int .i64 (m2 : Int))) (h : IsVs w pa pl pc cs) (hm0 : m0 < pl) (hm1 : m1 < pl) (hm2 : m2 < pl) :
  Calls Tryz.prog 165 #[.pointer (some ⟨pb, 0, none⟩), .slice (some ⟨tb, to, none⟩) 3 q] w fun e w' => ∃ x y z, e = .returned (vv x y z) ∧ F3 x y z (crossC (lessC (cs.getD m1 c0) (cs.getD m0 c0)) (lessC (cs.getD m2 c0) (cs.getD m0 c0))) ∧ Below w.heap.size w w' := by
 obtain ⟨pab, pao, rfl, hcell⟩ := h.some (by omega)
 have u := Tryz.underlying27
 have um := Tryz.underlying40
 have uv := Tryz.underlying42
 have hmx : pl ≤ 9223372036854775807 := by have h1 := h.2.1; have h2 := h.2.2.1; unfold maxLen at h2; omega
 have A0 := Lib.hid a0
 have R0 := Lib.hid r0'
 have R1 := Lib.hid r1'
 have R2 := Lib.hid r2'
 obtain ⟨p0, q0, r0, i00, i01, i02, f0⟩ := hcell m0 hm0
 have D0 := Lib.hid (And.intro i00 (And.intro i01 i02))
 have F0' := Lib.hid f0
 have g00 : (0 : Int) ≤ (m0 : Int) := by omega
 have g01 : (m0 : Int) < (pl : Int) := by omega
 obtain ⟨p1, q1, r1, i10, i11, i12, f1⟩ := hcell m1 hm1
 have D1 := Lib.hid (And.intro i10 (And.intro i11 i12))
 have F1' := Lib.hid f1
 have g10 : (0 : Int) ≤ (m1 : Int) := by omega
 have g11 : (m1 : Int) < (pl : Int) := by omega
 obtain ⟨p2, q2, r2, i20, i21, i22, f2⟩ := hcell m2 hm2
 have D2 := Lib.hid (And.intro i20 (And.intro i21 i22))
 have F2' := Lib.hid f2
 have g20 : (0 : Int) ≤ (m2 : Int) := by omega
 have g21 : (m2 : Int) < (pl : Int) := by omega
 clear a0 h hcell r0' i00 i01 i02 f0 r1' i10 i11 i12 f1 r2' i20 i21 i22 f2
 have FR : Hid (Frm w [] w.heap.size (w.alloc (.cells #[.float .f32 0, .float .f32 0, .float .f32 0] 42))) := Lib.hid ⟨(Below.refl _ _).alloc (Nat.le_refl _) _, fun b l hm => (by cases hm), Nat.le_refl _, ⟨.float .f32 0, .float .f32 0, .float .f32 0, by go_simp, by go_simp, by go_simp⟩, fun i => by go_simp⟩
 have HW0 : Hid ((w.alloc (.cells #[.float .f32 0, .float .f32 0, .float .f32 0] 42)).heap.size = w.heap.size + 1) := Lib.hid (by simp)
 go_enter Tryz.func165, Tryz.ntmps165
 go_wp2_with fail
 generalize (w.alloc (.cells #[.float .f32 0, .float .f32 0, .float .f32 0] 42)) = W at *
 refine Reg5.wp_region_mix (m := 10) (C := fun w' => Below W.heap.size W w') (D := fun _ => True) (G := fun w1 w2 => Below w1.heap.size w1 w2) (G' := fun _ _ => True)
  (R := fun i v w' => match i with | 0 => v = .pointer (some ⟨pb, 0, none⟩) | 1 => v = .pointer (some ⟨pb, 0, none⟩) | 2 => v = .pointer (some ⟨pb, 0, none⟩) | 3 => v = .slice (some ⟨pab, pao, none⟩) pl pc | 4 => v = .slice (some ⟨tb, to, none⟩) 3 q | 5 => v = .pointer (some ⟨tb, to, none⟩) | 6 => v = .int .i64 (m0 : Int) | 7 => v = .pointer (some ⟨pab, pao + m0 * 3, none⟩) | 8 => v = vv p0 q0 r0 | 9 => ∃ b, v = .pointer (some ⟨b, 0, none⟩) ∧ W.heap.size ≤ b ∧ b < w'.heap.size ∧ At w' b [.float .f32 0, .float .f32 0, .float .f32 0] ∧ Fr w' b | _ => True)
  (T := fun _ a w' => ∃ b, a.tmps[5]?.getD undef = .pointer (some ⟨b, 0, none⟩) ∧ W.heap.size ≤ b ∧ b < w'.heap.size ∧ At w' b [.float .f32 p0, .float .f32 q0, .float .f32 r0] ∧ Below W.heap.size W w') [false, false, false, false, false, true, true, true, true, true, true, true, true, true, true, false, false, false, false, false, false, false, false, false, false, false, false, false, false, false, false, false, false, false, false, false, false, false]
  (by kernel_rfl) (by kernel_rfl) (by kernel_rfl) (by kernel_rfl) ?_ ?_ (below_drewN (Below.refl _ _) 1) ?_ ?_
 ·intro j v wa wb hj _ hG hR
  match j with
  | 0 => exact hR
  | 1 => exact hR
  | 2 => exact hR
  | 3 => exact hR
  | 4 => exact hR
  | 5 => exact hR
  | 6 => exact hR
  | 7 => exact hR
  | 8 => exact hR
  | 9 => obtain ⟨b, e, h1, h2, h3, h4⟩ := hR; exact ⟨b, e, h1, Nat.lt_of_lt_of_le h2 hG.size, h3.below hG, h4.below hG h2⟩
  | _ + 10 => exact absurd hj (by omega)
 ·intro j v wa wb hj _ _ _
  match j, hj with
  | 0, hj => exact absurd hj (by omega)
  | 1, hj => exact absurd hj (by omega)
  | 2, hj => exact absurd hj (by omega)
  | 3, hj => exact absurd hj (by omega)
  | 4, hj => exact absurd hj (by omega)
  | 5, hj => exact absurd hj (by omega)
  | 6, hj => exact absurd hj (by omega)
  | 7, hj => exact absurd hj (by omega)
  | 8, hj => exact absurd hj (by omega)
  | 9, hj => exact absurd hj (by omega)
  | _ + 10, _ => trivial
 ·refine ⟨Reg5.Obl.early rfl rfl ?_, Reg5.Obl.early rfl rfl ?_, Reg5.Obl.early rfl rfl ?_, Reg5.Obl.early rfl rfl ?_, Reg5.Obl.early rfl rfl ?_, Reg5.Obl.early rfl rfl ?_, Reg5.Obl.early rfl rfl ?_, Reg5.Obl.early rfl rfl ?_, Reg5.Obl.early rfl rfl ?_, Reg5.Obl.early rfl rfl ?_, Reg5.Obl.fin rfl rfl ?_, trivial⟩
  ·rintro a w1 HC hx hd K hK
   replace HC := Lib.hid HC
   have t0 : a.tmps[0]?.getD undef = .pointer (some ⟨pb, 0, none⟩) := Reg.slot_val (hx 0 (by kernel_rfl))
   go_simp
   exact hK _ _ rfl HC.out (Below.refl _ _)
  ·rintro a w1 HC hx hd K hK
   replace HC := Lib.hid HC
   have t6 : a.tmps[6]?.getD undef = .pointer (some ⟨pb, 0, none⟩) := Reg.slot_val (hd 0 (by kernel_rfl) 6 rfl)
   go_simp
   exact hK _ _ rfl HC.out (Below.refl _ _)
  ·rintro a w1 HC hx hd K hK
   replace HC := Lib.hid HC
   have t7 : a.tmps[7]?.getD undef = .pointer (some ⟨pb, 0, none⟩) := Reg.slot_val (hd 1 (by kernel_rfl) 7 rfl)
   go_simp
   exact hK _ _ rfl HC.out (Below.refl _ _)
  ·rintro a w1 HC hx hd K hK
   replace HC := Lib.hid HC
   have t8 : a.tmps[8]?.getD undef = .pointer (some ⟨pb, 0, none⟩) := Reg.slot_val (hd 2 (by kernel_rfl) 8 rfl)
   have y9 := cell_below (FR.out.bel.trans (HC.out.mono FR.out.bel.size)) A0.out
   go_simp
   exact hK _ _ rfl HC.out (Below.refl _ _)
  ·rintro a w1 HC hx hd K hK
   replace HC := Lib.hid HC
   have t1 : a.tmps[1]?.getD undef = .slice (some ⟨tb, to, none⟩) 3 q := Reg.slot_val (hx 1 (by kernel_rfl))
   go_simp
   exact hK _ _ rfl HC.out (Below.refl _ _)
  ·rintro a w1 HC hx hd K hK
   replace HC := Lib.hid HC
   have t10 : a.tmps[10]?.getD undef = .slice (some ⟨tb, to, none⟩) 3 q := Reg.slot_val (hd 4 (by kernel_rfl) 10 rfl)
   go_simp
   exact hK _ _ rfl HC.out (Below.refl _ _)
  ·rintro a w1 HC hx hd K hK
   replace HC := Lib.hid HC
   have t11 : a.tmps[11]?.getD undef = .pointer (some ⟨tb, to, none⟩) := Reg.slot_val (hd 5 (by kernel_rfl) 11 rfl)
   have z0 := cell_below (FR.out.bel.trans (HC.out.mono FR.out.bel.size)) R0.out
   go_simp
   exact hK _ _ rfl HC.out (Below.refl _ _)
  ·rintro a w1 HC hx hd K hK
   replace HC := Lib.hid HC
   have t9 : a.tmps[9]?.getD undef = .slice (some ⟨pab, pao, none⟩) pl pc := Reg.slot_val (hd 3 (by kernel_rfl) 9 rfl)
   have t12 : a.tmps[12]?.getD undef = .int .i64 (m0 : Int) := Reg.slot_val (hd 6 (by kernel_rfl) 12 rfl)
   go_simp
   exact hK _ _ rfl HC.out (Below.refl _ _)
  ·rintro a w1 HC hx hd K hK
   replace HC := Lib.hid HC
   have t13 : a.tmps[13]?.getD undef = .pointer (some ⟨pab, pao + m0 * 3, none⟩) := Reg.slot_val (hd 7 (by kernel_rfl) 13 rfl)
   have y0 := cell_below (FR.out.bel.trans (HC.out.mono FR.out.bel.size)) D0.out.1
   have y1 := cell_below (FR.out.bel.trans (HC.out.mono FR.out.bel.size)) D0.out.2.1
   have y2 := cell_below (FR.out.bel.trans (HC.out.mono FR.out.bel.size)) D0.out.2.2
   go_simp
   exact hK _ _ rfl HC.out (Below.refl _ _)
  ·rintro a w1 HC hx hd K hK
   replace HC := Lib.hid HC
   go_simp
   have hB2 : Below w1.heap.size w1 (w1.alloc (.cells #[.float .f32 0, .float .f32 0, .float .f32 0] 42)) := (Below.refl _ _).alloc (Nat.le_refl _) _
   exact hK _ _ ⟨w1.heap.size, rfl, HC.out.size, by simp, At.new, Fr.new⟩ (HC.out.trans (hB2.mono HC.out.size)) hB2
  ·rintro a w1 HC hx hd K hK
   replace HC := Lib.hid HC
   have t14 : a.tmps[14]?.getD undef = vv p0 q0 r0 := Reg.slot_val (hd 8 (by kernel_rfl) 14 rfl)
   obtain ⟨b, g5, h1, h2, h3, h4⟩ := hd 9 (by kernel_rfl) 5 rfl
   have t5 := Reg.slot_val g5
   clear g5
   have HB4 := Lib.hid (And.intro h1 h2)
   have z0 := h3 0 _ rfl
   have z1 := h3 1 _ rfl
   have z2 := h3 2 _ rfl
   have k0 := h4 0
   have k1 := h4 1
   have k2 := h4 2
   have hR := at_setL (vs := [.float .f32 p0, .float .f32 q0, .float .f32 r0]) (o := 0) h3 (Nat.le_of_ble_eq_true rfl)
   have hBB := setL_below b h1 [.float .f32 p0, .float .f32 q0, .float .f32 r0] _ 0 HC.out
   simp only [setL, Nat.zero_add, Nat.reduceAdd] at hR hBB
   have HR := Lib.hid hR
   have HBB := Lib.hid hBB
   clear hR hBB h1 h2 h3 h4
   go_simp
   exact hK undef _ ⟨b, t5, HB4.out.1, by simpa using HB4.out.2, HR.out, HBB.out⟩
 ·rintro f W1 hR hT
  obtain ⟨V, e5, h1, h2, h3, h4⟩ := hT 10 rfl (Nat.le_of_ble_eq_true rfl)
  have g5 : f 5 = .pointer (some ⟨V, 0, none⟩) := e5
  simp only [Reg.mixL, Nat.zero_add, Nat.reduceAdd, g5]
  have FR1 : Hid (Frm w [(V, [.float .f32 p0, .float .f32 q0, .float .f32 r0])] w.heap.size W1) := Lib.hid (by
   have k := FR.out.call h4
   refine ⟨k.1, fun b l hm => ?_, k.2.2⟩
   rcases List.mem_cons.1 hm with e | hm
   ·cases e
    exact ⟨h3, by have := HW0.out; omega⟩
   ·cases hm)
  clear hR hT e5 h1 h2 h3 h4 g5
  go_wp2_with fail
  refine Reg2.wp_region_mix (C := Frm w [(V, [.float .f32 p0, .float .f32 q0, .float .f32 r0])] (w.heap.size)) (G := fun w1 w2 => TV (w.heap.size) (crossC (lessC (cs.getD m1 c0) (cs.getD m0 c0)) (lessC (cs.getD m2 c0) (cs.getD m0 c0))) w1 → TV (w.heap.size) (crossC (lessC (cs.getD m1 c0) (cs.getD m0 c0)) (lessC (cs.getD m2 c0) (cs.getD m0 c0))) w2) (R := fun i v w' => match i with | 0 => v = .pointer (some ⟨pb, 0, none⟩) | 1 => v = .pointer (some ⟨pb, 0, none⟩) | 2 => v = .pointer (some ⟨pb, 0, none⟩) | 3 => v = .slice (some ⟨pab, pao, none⟩) pl pc | 4 => v = .slice (some ⟨tb, to, none⟩) 3 q | 5 => v = .pointer (some ⟨tb, to + 1, none⟩) | 6 => v = .int .i64 (m1 : Int) | 7 => v = .pointer (some ⟨pab, pao + m1 * 3, none⟩) | 8 => v = vv p1 q1 r1 | 9 => v = vv p0 q0 r0 | 10 => ∃ p q r, v = vv p q r ∧ F3 p q r (lessC (cs.getD m1 c0) (cs.getD m0 c0)) | 11 => v = .pointer (some ⟨pb, 0, none⟩) | 12 => v = .pointer (some ⟨pb, 0, none⟩) | 13 => v = .pointer (some ⟨pb, 0, none⟩) | 14 => v = .slice (some ⟨pab, pao, none⟩) pl pc | 15 => v = .slice (some ⟨tb, to, none⟩) 3 q | 16 => v = .pointer (some ⟨tb, to + 2, none⟩) | 17 => v = .int .i64 (m2 : Int) | 18 => v = .pointer (some ⟨pab, pao + m2 * 3, none⟩) | 19 => v = vv p2 q2 r2 | 20 => v = vv p0 q0 r0 | 21 => ∃ p q r, v = vv p q r ∧ F3 p q r (lessC (cs.getD m2 c0) (cs.getD m0 c0)) | 22 => ∃ p q r, v = vv p q r ∧ F3 p q r (crossC (lessC (cs.getD m1 c0) (cs.getD m0 c0)) (lessC (cs.getD m2 c0) (cs.getD m0 c0))) | _ => True) (T := fun _ w' => TV (w.heap.size) (crossC (lessC (cs.getD m1 c0) (cs.getD m0 c0)) (lessC (cs.getD m2 c0) (cs.getD m0 c0))) w') [false, false, false, false, false, false, false, false, false, false, false, false, false, false, false, true, true, true, true, true, true, true, true, true, true, true, true, true, true, true, true, true, true, true, true, true, true, true]
   (by kernel_rfl) (by kernel_rfl) (by kernel_rfl) (fun _ _ _ _ _ _ h => h) (fun _ _ _ _ hG hT => hG hT) (Frm.drewN FR1.out 1) ?_ ?_
  ·refine ⟨Reg2.Obl.mk ?_, Reg2.Obl.mk ?_, Reg2.Obl.mk ?_, Reg2.Obl.mk ?_, Reg2.Obl.mk ?_, Reg2.Obl.mk ?_, Reg2.Obl.mk ?_, Reg2.Obl.mk ?_, Reg2.Obl.mk ?_, Reg2.Obl.mk ?_, Reg2.Obl.mk ?_, Reg2.Obl.mk ?_, Reg2.Obl.mk ?_, Reg2.Obl.mk ?_, Reg2.Obl.mk ?_, Reg2.Obl.mk ?_, Reg2.Obl.mk ?_, Reg2.Obl.mk ?_, Reg2.Obl.mk ?_, Reg2.Obl.mk ?_, Reg2.Obl.mk ?_, Reg2.Obl.mk ?_, Reg2.Obl.mk ?_, Reg2.Obl.mk ?_, trivial⟩
   ·rintro a w1 HC hx hd K hK
    replace HC := Lib.hid HC
    have t0 : a.tmps[0]?.getD undef = .pointer (some ⟨pb, 0, none⟩) := Reg.slot_val (hx 0 (by kernel_rfl))
    go_simp
    exact hK _ _ (fun _ => rfl) (fun h => by cases h) HC.out (fun h => h)
   ·rintro a w1 HC hx hd K hK
    replace HC := Lib.hid HC
    have t15 : a.tmps[15]?.getD undef = .pointer (some ⟨pb, 0, none⟩) := Reg.slot_val (hd 0 (by kernel_rfl) 15 rfl)
    go_simp
    exact hK _ _ (fun _ => rfl) (fun h => by cases h) HC.out (fun h => h)
   ·rintro a w1 HC hx hd K hK
    replace HC := Lib.hid HC
    have t16 : a.tmps[16]?.getD undef = .pointer (some ⟨pb, 0, none⟩) := Reg.slot_val (hd 1 (by kernel_rfl) 16 rfl)
    go_simp
    exact hK _ _ (fun _ => rfl) (fun h => by cases h) HC.out (fun h => h)
   ·rintro a w1 HC hx hd K hK
    replace HC := Lib.hid HC
    have y9 := cell_below HC.out.bel A0.out
    have t17 : a.tmps[17]?.getD undef = .pointer (some ⟨pb, 0, none⟩) := Reg.slot_val (hd 2 (by kernel_rfl) 17 rfl)
    go_simp
    exact hK _ _ (fun _ => rfl) (fun h => by cases h) HC.out (fun h => h)
   ·rintro a w1 HC hx hd K hK
    replace HC := Lib.hid HC
    have t1 : a.tmps[1]?.getD undef = .slice (some ⟨tb, to, none⟩) 3 q := Reg.slot_val (hx 1 (by kernel_rfl))
    go_simp
    exact hK _ _ (fun _ => rfl) (fun h => by cases h) HC.out (fun h => h)
   ·rintro a w1 HC hx hd K hK
    replace HC := Lib.hid HC
    have t19 : a.tmps[19]?.getD undef = .slice (some ⟨tb, to, none⟩) 3 q := Reg.slot_val (hd 4 (by kernel_rfl) 19 rfl)
    go_simp
    exact hK _ _ (fun _ => rfl) (fun h => by cases h) HC.out (fun h => h)
   ·rintro a w1 HC hx hd K hK
    replace HC := Lib.hid HC
    have z1 := cell_below HC.out.bel R1.out
    have t20 : a.tmps[20]?.getD undef = .pointer (some ⟨tb, to + 1, none⟩) := Reg.slot_val (hd 5 (by kernel_rfl) 20 rfl)
    go_simp
    exact hK _ _ (fun _ => rfl) (fun h => by cases h) HC.out (fun h => h)
   ·rintro a w1 HC hx hd K hK
    replace HC := Lib.hid HC
    have t18 : a.tmps[18]?.getD undef = .slice (some ⟨pab, pao, none⟩) pl pc := Reg.slot_val (hd 3 (by kernel_rfl) 18 rfl)
    have t21 : a.tmps[21]?.getD undef = .int .i64 (m1 : Int) := Reg.slot_val (hd 6 (by kernel_rfl) 21 rfl)
    go_simp
    exact hK _ _ (fun _ => rfl) (fun h => by cases h) HC.out (fun h => h)
   ·rintro a w1 HC hx hd K hK
    replace HC := Lib.hid HC
    have y0 := cell_below HC.out.bel D1.out.1
    have y1 := cell_below HC.out.bel D1.out.2.1
    have y2 := cell_below HC.out.bel D1.out.2.2
    have t22 : a.tmps[22]?.getD undef = .pointer (some ⟨pab, pao + m1 * 3, none⟩) := Reg.slot_val (hd 7 (by kernel_rfl) 22 rfl)
    go_simp
    exact hK _ _ (fun _ => rfl) (fun h => by cases h) HC.out (fun h => h)
   ·rintro a w1 HC hx hd K hK
    replace HC := Lib.hid HC
    have y0 := (HC.out.mem (.head _)) 0 _ rfl
    have y1 := (HC.out.mem (.head _)) 1 _ rfl
    have y2 := (HC.out.mem (.head _)) 2 _ rfl
    have t5 : a.tmps[5]?.getD undef = .pointer (some ⟨V, 0, none⟩) := Reg.slot_val (hx 5 (by kernel_rfl))
    go_simp
    exact hK _ _ (fun _ => rfl) (fun h => by cases h) HC.out (fun h => h)
   ·rintro a w1 HC hx hd K hK
    replace HC := Lib.hid HC
    have t23 : a.tmps[23]?.getD undef = vv p1 q1 r1 := Reg.slot_val (hd 8 (by kernel_rfl) 23 rfl)
    have t24 : a.tmps[24]?.getD undef = vv p0 q0 r0 := Reg.slot_val (hd 9 (by kernel_rfl) 24 rfl)
    go_simp
    refine (l01Less _ _ _ _ _ _ _ _ _ _ _ _ _ F1'.out.1 F1'.out.2.1 F1'.out.2.2 F0'.out.1 F0'.out.2.1 F0'.out.2.2).mono ?_
    rintro en w2 ⟨p', q', r', rfl, fp', fq', fr', hB2⟩
    exact hK _ _ (fun _ => ⟨p', q', r', rfl, fp', fq', fr'⟩) (fun h => by cases h) (HC.out.call hB2) (TV.call hB2)
   ·rintro a w1 HC hx hd K hK
    replace HC := Lib.hid HC
    have t0 : a.tmps[0]?.getD undef = .pointer (some ⟨pb, 0, none⟩) := Reg.slot_val (hx 0 (by kernel_rfl))
    go_simp
    exact hK _ _ (fun _ => rfl) (fun h => by cases h) HC.out (fun h => h)
   ·rintro a w1 HC hx hd K hK
    replace HC := Lib.hid HC
    have t26 : a.tmps[26]?.getD undef = .pointer (some ⟨pb, 0, none⟩) := Reg.slot_val (hd 11 (by kernel_rfl) 26 rfl)
    go_simp
    exact hK _ _ (fun _ => rfl) (fun h => by cases h) HC.out (fun h => h)
   ·rintro a w1 HC hx hd K hK
    replace HC := Lib.hid HC
    have t27 : a.tmps[27]?.getD undef = .pointer (some ⟨pb, 0, none⟩) := Reg.slot_val (hd 12 (by kernel_rfl) 27 rfl)
    go_simp
    exact hK _ _ (fun _ => rfl) (fun h => by cases h) HC.out (fun h => h)
   ·rintro a w1 HC hx hd K hK
    replace HC := Lib.hid HC
    have y9 := cell_below HC.out.bel A0.out
    have t28 : a.tmps[28]?.getD undef = .pointer (some ⟨pb, 0, none⟩) := Reg.slot_val (hd 13 (by kernel_rfl) 28 rfl)
    go_simp
    exact hK _ _ (fun _ => rfl) (fun h => by cases h) HC.out (fun h => h)
   ·rintro a w1 HC hx hd K hK
    replace HC := Lib.hid HC
    have t1 : a.tmps[1]?.getD undef = .slice (some ⟨tb, to, none⟩) 3 q := Reg.slot_val (hx 1 (by kernel_rfl))
    go_simp
    exact hK _ _ (fun _ => rfl) (fun h => by cases h) HC.out (fun h => h)
   ·rintro a w1 HC hx hd K hK
    replace HC := Lib.hid HC
    have t30 : a.tmps[30]?.getD undef = .slice (some ⟨tb, to, none⟩) 3 q := Reg.slot_val (hd 15 (by kernel_rfl) 30 rfl)
    go_simp
    exact hK _ _ (fun _ => rfl) (fun h => by cases h) HC.out (fun h => h)
   ·rintro a w1 HC hx hd K hK
    replace HC := Lib.hid HC
    have z2 := cell_below HC.out.bel R2.out
    have t31 : a.tmps[31]?.getD undef = .pointer (some ⟨tb, to + 2, none⟩) := Reg.slot_val (hd 16 (by kernel_rfl) 31 rfl)
    go_simp
    exact hK _ _ (fun _ => rfl) (fun h => by cases h) HC.out (fun h => h)
   ·rintro a w1 HC hx hd K hK
    replace HC := Lib.hid HC
    have t29 : a.tmps[29]?.getD undef = .slice (some ⟨pab, pao, none⟩) pl pc := Reg.slot_val (hd 14 (by kernel_rfl) 29 rfl)
    have t32 : a.tmps[32]?.getD undef = .int .i64 (m2 : Int) := Reg.slot_val (hd 17 (by kernel_rfl) 32 rfl)
    go_simp
    exact hK _ _ (fun _ => rfl) (fun h => by cases h) HC.out (fun h => h)
   ·rintro a w1 HC hx hd K hK
    replace HC := Lib.hid HC
    have y0 := cell_below HC.out.bel D2.out.1
    have y1 := cell_below HC.out.bel D2.out.2.1
    have y2 := cell_below HC.out.bel D2.out.2.2
    have t33 : a.tmps[33]?.getD undef = .pointer (some ⟨pab, pao + m2 * 3, none⟩) := Reg.slot_val (hd 18 (by kernel_rfl) 33 rfl)
    go_simp
    exact hK _ _ (fun _ => rfl) (fun h => by cases h) HC.out (fun h => h)
   ·rintro a w1 HC hx hd K hK
    replace HC := Lib.hid HC
    have y0 := (HC.out.mem (.head _)) 0 _ rfl
    have y1 := (HC.out.mem (.head _)) 1 _ rfl
    have y2 := (HC.out.mem (.head _)) 2 _ rfl
    have t5 : a.tmps[5]?.getD undef = .pointer (some ⟨V, 0, none⟩) := Reg.slot_val (hx 5 (by kernel_rfl))
    go_simp
    exact hK _ _ (fun _ => rfl) (fun h => by cases h) HC.out (fun h => h)
   ·rintro a w1 HC hx hd K hK
    replace HC := Lib.hid HC
    have t34 : a.tmps[34]?.getD undef = vv p2 q2 r2 := Reg.slot_val (hd 19 (by kernel_rfl) 34 rfl)
    have t35 : a.tmps[35]?.getD undef = vv p0 q0 r0 := Reg.slot_val (hd 20 (by kernel_rfl) 35 rfl)
    go_simp
    refine (l01Less _ _ _ _ _ _ _ _ _ _ _ _ _ F2'.out.1 F2'.out.2.1 F2'.out.2.2 F0'.out.1 F0'.out.2.1 F0'.out.2.2).mono ?_
    rintro en w2 ⟨p', q', r', rfl, fp', fq', fr', hB2⟩
    exact hK _ _ (fun _ => ⟨p', q', r', rfl, fp', fq', fr'⟩) (fun h => by cases h) (HC.out.call hB2) (TV.call hB2)
   ·rintro a w1 HC hx hd K hK
    replace HC := Lib.hid HC
    obtain ⟨p25, q25, r25, g25, f25⟩ := hd 10 (by kernel_rfl) 25 rfl
    have t25 := Reg.slot_val g25
    clear g25
    obtain ⟨p36, q36, r36, g36, f36⟩ := hd 21 (by kernel_rfl) 36 rfl
    have t36 := Reg.slot_val g36
    clear g36
    go_simp
    refine (l01Cross _ _ _ _ _ _ _ _ _ _ _ _ _ f25.1 f25.2.1 f25.2.2 f36.1 f36.2.1 f36.2.2).mono ?_
    rintro en w2 ⟨p', q', r', rfl, fp', fq', fr', hB2⟩
    exact hK _ _ (fun _ => ⟨p', q', r', rfl, fp', fq', fr'⟩) (fun h => by cases h) (HC.out.call hB2) (TV.call hB2)
   ·rintro a w1 HC hx hd K hK
    replace HC := Lib.hid HC
    have t4 : a.tmps[4]?.getD undef = .pointer (some ⟨w.heap.size, 0, none⟩) := Reg.slot_val (hx 4 (by kernel_rfl))
    obtain ⟨p37, q37, r37, g37, f37⟩ := hd 22 (by kernel_rfl) 37 rfl
    have t37 := Reg.slot_val g37
    clear g37
    obtain ⟨u0, u1, u2, x0, x1, x2⟩ := HC.out.cells
    have k0 := HC.out.free 0
    have k1 := HC.out.free 1
    have k2 := HC.out.free 2
    go_simp
    exact hK undef _ (fun h => absurd rfl h) (fun _ => TV.put HC.out f37) (HC.out.put _ _ _) (fun _ => TV.put HC.out f37)
  ·rintro f w1 hC hd' hT
   obtain ⟨x, y, z, ⟨x0, x1, x2⟩, hf⟩ := hT 23 rfl (by decide)
   simp only [Reg.mixL]
   have HC := Lib.hid hC
   clear hC hd' hT
   go_wp2
   refine bodyPost_ret (v := vv x y z) (by simp [results, Tryz.results165, go_sem, x0, x1, x2]) rfl ⟨x, y, z, rfl, hf, HC.out.bel⟩
end Go.Proofs.YtabccmobmppdnaaGreat
namespace Go.Proofs.YtabccmobmppdnaaGreat
open Go Fk Go.RowKit
set_option linter.unusedVariables false
set_option maxRecDepth 8000
def hasQ (L : List Int) (z : Int) : Bool := L.any (fun x => decide (x = z))
theorem hasQ_yes {L : List Int} {z : Int} {k : Nat} (hk : k < L.length) (h : L.getD k 0 = z) : hasQ L z = true := by
 have : L.getD k 0 = L[k] := by simp [List.getD, hk]
 rw [this] at h
 exact List.any_eq_true.2 ⟨L[k], List.getElem_mem hk, decide_eq_true h⟩
theorem hasQ_no {L : List Int} {z : Int} (h : ∀ j, j < L.length → L.getD j 0 ≠ z) : hasQ L z = false := by
 rw [Bool.eq_false_iff]
 intro hh
 obtain ⟨x, hx, he⟩ := List.any_eq_true.1 hh
 obtain ⟨j, hj, rfl⟩ := List.getElem_of_mem hx
 have := h j hj
 simp [List.getD, hj] at this
 exact this (of_decide_eq_true he)
theorem l00HasQ (a : Option Addr) (n cap : Nat) (L : List Int) (p : Int) (w : World) (h : IsIs w a n cap L) :
  Calls Tryz.prog 157 #[.slice a n cap, .int .i64 p] w fun e w' => e = .returned (.bool (hasQ L p)) ∧ w' = w := by
 have hm : n ≤ 9223372036854775807 := by have h1 := h.2.1; have h2 := h.2.2.1; unfold maxLen at h2; omega
 have hl := h.1
 have H := Lib.hid h
 clear h
 go_enter Tryz.func157, Tryz.ntmps157
 go_wp2
 go_loopw [5] (fun i w' => ∃ k : Nat, k ≤ n ∧ i = .int .i64 k ∧ w' = w ∧ Aside (∀ j, j < k → L.getD j 0 ≠ p)) (fun i _ => n - (intOf i).toNat)
 case atStart => exact ⟨0, Nat.zero_le _, rfl, rfl, fun j hj => absurd hj (by omega)⟩
 case round =>
  obtain ⟨k, hk, rfl, rfl, hA⟩ := hrel
  have HA := Lib.hid hA.out
  clear hA
  by_cases hlt : k < n
  ·obtain ⟨b, o, rfl, hcell⟩ := H.out.some (by omega)
   have hc0 := hcell k hlt
   have hk0 : (0 : Int) ≤ (k : Int) := by omega
   have hk1 : (k : Int) < (n : Int) := by omega
   have HZ := Lib.hid (fun (e : L.getD k 0 = p) => hasQ_yes (by omega) e)
   have HN : Hid (L.getD k 0 ≠ p → ∀ j, j < k + 1 → L.getD j 0 ≠ p) := Lib.hid (fun e j hj => by
    by_cases hjk : j = k
    ·subst hjk; exact e
    ·exact HA.out j (by omega))
   clear hcell
   generalize L.getD k 0 = z at *
   by_cases hz : z = p
   ·have HR := Lib.hid (HZ.out hz)
    subst hz
    clear HZ HN
    go_wp2
    go_ret
    exact ⟨ret_bool HR.out.symm, by first | rfl | trivial⟩
   ·have HR := Lib.hid (HN.out hz)
    have hze : (z == p) = false := by simp [hz]
    clear HZ HN
    go_wp2
    go_roundw
    case rel => exact ⟨k + 1, by omega, by go_num, by first | rfl | trivial, HR.out⟩
    case measure => simp [intOf]; omega
  ·obtain rfl : k = n := by omega
   have HR := Lib.hid (hasQ_no (fun j hj => HA.out j (by omega)))
   go_wp2
   go_ret
   exact ⟨ret_bool HR.out.symm, by first | rfl | trivial⟩
theorem hasQ3 {t : List Int} (h : t.length = 3) (p : Int) : hasQ t p = hasB t p := by
 match t, h with
 | [a, b, c], _ => simp [hasQ, hasB, List.getD]
end Go.Proofs.YtabccmobmppdnaaGreat
namespace Go.Proofs.YtabccmobmppdnaaGreat
open Go Fk Go.RowKit Go.Maps
set_option linter.unusedVariables false
set_option maxRecDepth 16000
end Go.Proofs.YtabccmobmppdnaaGreat
namespace Go.Proofs.YtabccmobmppdnaaGreat
open Go Fk Go.RowKit Go.Maps
set_option linter.unusedVariables false
set_option maxRecDepth 16000
set_option maxHeartbeats 4000000 in
theorem l03Third (r : Option Addr) (q n : Nat) (t : List Int) (i j : Int) (w : World) (h : IsIs w r 3 q t) (hT : Tri3 n t) (hij : i ≠ j) :
  Calls Tryz.prog 190 #[.slice r 3 q, .int .i64 i, .int .i64 j] w fun e w' => e = .returned (.int .i64 (thS t i j)) ∧ w' = w := by
 have hl := h.1
 have J := Lib.hid (fun p => (by have := l00HasQ r 3 q t p w h; rw [hasQ3 hl] at this; exact this : Calls Tryz.prog 157 #[.slice r 3 q, .int .i64 p] w fun e w' => e = .returned (.bool (hasB t p)) ∧ w' = w))
 have H := Lib.hid h
 have HT := Lib.hid hT
 unfold thS
 clear h hl hT
 cases h1 : hasB t i
 ·go_enter Tryz.func190, Tryz.ntmps190
  go_wp2_with fail
  refine (J.out i).mono ?_
  rintro e w1 ⟨rfl, hw1⟩
  rw [hw1, h1]
  clear hw1
  go_wp2
  go_ret
  exact ⟨rfl, by first | rfl | trivial⟩
 ·cases h2 : hasB t j
  ·go_enter Tryz.func190, Tryz.ntmps190
   go_wp2_with fail
   refine (J.out i).mono ?_
   rintro e w1 ⟨rfl, hw1⟩
   rw [hw1, h1]
   clear hw1
   go_wp2_with fail
   refine (J.out j).mono ?_
   rintro e w2 ⟨rfl, hw2⟩
   rw [hw2, h2]
   clear hw2
   go_wp2
   go_ret
   exact ⟨rfl, by first | rfl | trivial⟩
  ·have HTA := Lib.hid (fun k (hk : k < 3) h3 h4 => th_at HT.out hij h1 h2 (k := k) hk h3 h4)
   have HTH := Lib.hid (th_has HT.out hij h1 h2)
   go_enter Tryz.func190, Tryz.ntmps190
   go_wp2_with fail
   refine (J.out i).mono ?_
   rintro e w1 ⟨rfl, hw1⟩
   rw [hw1, h1]
   clear hw1
   go_wp2_with fail
   refine (J.out j).mono ?_
   rintro e w2 ⟨rfl, hw2⟩
   rw [hw2, h2]
   clear hw2 h1 h2
   go_wp2
   go_loopw [20] (fun x w' => ∃ k : Nat, k ≤ 3 ∧ x = .int .i64 k ∧ w' = w ∧ Aside (∀ m, m < k → t.getD m 0 = i ∨ t.getD m 0 = j)) (fun x _ => 3 - (intOf x).toNat)
   case atStart => exact ⟨0, by omega, rfl, rfl, fun m hm => absurd hm (by omega)⟩
   case round =>
    obtain ⟨k, hk, rfl, rfl, hA⟩ := hrel
    have HA := Lib.hid hA.out
    clear hA
    by_cases hlt : k < 3
    ·obtain ⟨b, o, rfl, hcell⟩ := H.out.some (by decide)
     have hc0 := hcell k hlt
     have hk0 : (0 : Int) ≤ (k : Int) := by omega
     have hk1 : (k : Int) < (3 : Int) := by omega
     have HX := Lib.hid (HTA.out k hlt)
     have HN : Hid (t.getD k 0 = i ∨ t.getD k 0 = j → ∀ m, m < k + 1 → t.getD m 0 = i ∨ t.getD m 0 = j) := Lib.hid (fun e m hm => by
      by_cases hmk : m = k
      ·subst hmk; exact e
      ·exact HA.out m (by omega))
     clear hcell
     generalize t.getD k 0 = z at *
     by_cases hi : z = i
     ·have hne : (z != i) = false := by simp [hi]
      have HR := Lib.hid (HN.out (.inl hi))
      subst hi
      go_wp2
      go_roundw
      case rel => exact ⟨k + 1, by omega, by go_num, by first | rfl | trivial, HR.out⟩
      case measure => simp [intOf]; omega
     ·have hne : (z != i) = true := by simp [hi]
      by_cases hj : z = j
      ·have hne2 : (z != j) = false := by simp [hj]
       have HR := Lib.hid (HN.out (.inr hj))
       subst hj
       go_wp2
       go_roundw
       case rel => exact ⟨k + 1, by omega, by go_num, by first | rfl | trivial, HR.out⟩
       case measure => simp [intOf]; omega
      ·have hne2 : (z != j) = true := by simp [hj]
       have HZ := Lib.hid (HX.out hi hj)
       go_wp2
       go_ret
       exact ⟨by rw [HZ.out]; rfl, by first | rfl | trivial⟩
    ·obtain rfl : k = 3 := by omega
     exact (HTH.out HA.out).elim
theorem ts_grown {lo hi : Nat} {w w' : World} {a : Option Addr} {n cap : Nat} {ts : List (List Int)} {row : Option Nat} (h : IsTs w a n cap ts) (hl : LT lo hi w a n) (hg : w.grownBy w' row) (ho : ∀ g, row = some g → g < lo ∨ hi ≤ g) : IsTs w' a n cap ts ∧ LT lo hi w' a n := by
 have hne : ∀ b, lo ≤ b → b < hi → some b ≠ row := fun b h1 h2 e => by have := ho b e.symm; omega
 obtain ⟨h1, h2, h3, h4, h5⟩ := h
 refine ⟨⟨h1, h2, h3, h4, fun x hx i hlt => ?_⟩, fun x hx => ?_⟩
 ·obtain ⟨R, e, u1, u2, u3⟩ := hl x hx
  obtain ⟨G, c, c', hc, hI⟩ := h5 x hx i hlt
  obtain ⟨b, m, c2, hc2, hb⟩ := u3 i hlt
  subst e
  rw [addr_add', Nat.zero_add] at hc
  rw [hc2] at hc
  cases hc
  refine ⟨_, _, _, by rw [addr_add', Nat.zero_add]; exact hg.cell hc2 (hne R u1 u2), ?_⟩
  obtain ⟨i1, i2, i3, i4, i5, i6⟩ := hI
  refine ⟨i1, i2, i3, i4, i5, fun y hy j hj => ?_⟩
  obtain ⟨F, o, e, v1, v2⟩ := hb y hy
  have := i6 y hy j hj
  subst e
  rw [addr_add'] at this ⊢
  exact hg.cell this (hne F v1 v2)
 ·obtain ⟨R, e, u1, u2, u3⟩ := hl x hx
  refine ⟨R, e, u1, u2, fun i hlt => ?_⟩
  obtain ⟨b, m, c2, hc2, hb⟩ := u3 i hlt
  exact ⟨b, m, c2, hg.cell hc2 (hne R u1 u2), hb⟩
set_option maxHeartbeats 8000000 in
theorem l03Hinges (pb : Nat) (pa ta : Option Addr) (pl pc tl tc : Nat) (cs : List C3) (ts : List (List Int)) (w : World) (a0 : w.cell? ⟨pb, 0, none⟩ = some (.slice pa pl pc)) (a1 : w.cell? ⟨pb, 1, none⟩ = some (.slice ta tl tc)) (hp : IsVs w pa pl pc cs) (ht : IsTs w ta tl tc ts) (hv : validB cs ts = true) :
  Calls Tryz.prog 168 #[.pointer (some ⟨pb, 0, none⟩)] w fun e w' => (∃ v, e = .returned v ∧ OwnT w.heap.size w' v (hgT cs ts).length (hgT cs ts)) ∧ Below w.heap.size w w' := by
 have ui := Tryz.underlying40
 obtain ⟨i0, hi, hz0, hz1, hz2⟩ := info_parts info64
 obtain ⟨j0, hj, hy0, hy1, hy2⟩ := info_parts infoS
 have hpl := hp.1
 have hll := edT_len cs ts
 obtain ⟨v1, v2⟩ := valid_pl hv
 have HT3 : Hid (∀ i, i < ts.length → Tri3 cs.length (ts.getD i [])) := Lib.hid (fun i (hi : i < ts.length) => tri3_of (valid_rowh hv hi))
 have h3 : ∀ k, k < tl → (ts.getD k []).length = 3 := fun k hk => (tri_partsh (valid_rowh hv (show k < ts.length by have := ht.1; omega))).1
 have H3 := Lib.hid h3
 have HTL := Lib.hid ht.1
 have HTS := Lib.hid ht
 have HL : Hid (tl ≤ 128) := Lib.hid (by have := ht.1; omega)
 have hed : edgesT pl ts = (pairsL (keysE ts) cs.length).map rowP := by rw [hpl]; exact edgesT_pairs _ _
 have J2 := Lib.hid (fun (w : World) a0 a1 hp ht => l02Edges pb pa ta pl pc tl tc cs ts w a0 a1 hp ht hv)
 have hwf : ∀ j, j < (edgesT pl ts).length → ∀ z ∈ (edgesT pl ts).getD j [], (Lit.int .i64 z).wf = true := edge_wf (by have := (valid_pl hv).1; omega)
 have HIM : Hid (∀ k, k < (pairsL (keysE ts) cs.length).length → ∃ m n : Nat, m < n ∧ n < 64 ∧ (pairsL (keysE ts) cs.length).getD k (0, 0) = ((m : Int), (n : Int))) := Lib.hid (fun k hk => by
  have hm : (pairsL (keysE ts) cs.length).getD k (0, 0) ∈ pairsL (keysE ts) cs.length := by
   rw [List.getD, List.getElem?_eq_getElem hk]
   exact List.getElem_mem _
  obtain ⟨a, b, _, hb, hab, _, e⟩ := mem_pairsL.1 hm
  exact ⟨a, b, hab, by omega, e⟩)
 unfold edT at hll
 rw [hv] at hll
 simp only [cond_true] at hll
 rw [edgesT_pairs, List.length_map] at hll
 rw [hed] at J2 hwf
 unfold hgT
 rw [hv, cond_true]
 generalize pairsL (keysE ts) cs.length = ps at *
 have HWF := Lib.hid hwf
 have HLEN := Lib.hid hll
 have HP := Lib.hid hp
 have C01 := Lib.hid (And.intro a0 a1)
 clear h3 v1 v2 hv hp ht hwf hed hll a0 a1
 have hst0 : (w.alloc (.cells #[] 33)).ownsRow w.heap.size 33 1 (.slice (some ⟨w.heap.size, 0, none⟩) 0 0) 0 [] :=
  World.ownsRow_lit (base := w.heap.size) (e := 33) (size := 1) w #[] 0 (Nat.le_refl _) (by decide) rfl
 have hbw0 : Below w.heap.size w (w.alloc (.cells #[] 33)) := (Below.refl _ _).alloc (Nat.le_refl _) _
 have HST0 : Hid (OwnT w.heap.size (w.alloc (.cells #[] 33)) (.slice (some ⟨w.heap.size, 0, none⟩) 0 0) 0 (hgK ts ps 0)) := Lib.hid ⟨[], hst0, fun j hj => absurd hj (by omega)⟩
 have HBW0 := Lib.hid hbw0
 clear hst0 hbw0
 go_enter Tryz.func168, Tryz.ntmps168
 go_wp2_with fail
 have HW0 : Hid (w.heap.size < (w.alloc (.cells #[] 33)).heap.size) := Lib.hid (by simp)
 have HV0 : Hid (∀ g, (Value.slice (some ⟨w.heap.size, 0, none⟩) 0 0).ownBlock = some g → g = w.heap.size) := Lib.hid (fun g h => by simp [Value.ownBlock] at h; exact h.symm)
 generalize w.alloc (.cells #[] 33) = W0 at *
 generalize (.slice (some ⟨w.heap.size, 0, none⟩) 0 0 : Value) = v0 at *
 refine (J2.out W0 (cell_below HBW0.out C01.out.1) (cell_below HBW0.out C01.out.2) (HP.out.below HBW0.out) (HTS.out.below HBW0.out)).mono ?_
 rintro e w2 ⟨⟨v, rfl, hvo⟩, hB2⟩
 obtain ⟨ea, ec, rfl, hI⟩ := hvo.is rfl HWF.out
 have hLT := lt_of_owns hvo
 have HI := Lib.hid hI
 have HST := Lib.hid (HST0.out.up hB2)
 have HB2 := Lib.hid (HBW0.out.trans (hB2.mono HBW0.out.size))
 have hlm : (List.map rowP ps).length = ps.length := by simp
 rw [hlm] at HI hLT ⊢
 have HLT := Lib.hid hLT
 have HB22 := Lib.hid hB2.size
 clear hvo hI hB2 hlm J2 HST0 HBW0 hLT
 go_wp2
 go_loopw [3, 16] (fun v i w' => ∃ k : Nat, k ≤ ps.length ∧ i = .int .i64 k ∧ Aside (OwnT w.heap.size w' v (hgK ts ps k).length (hgK ts ps k) ∧ Below w.heap.size w w' ∧ IsTs w' ea ps.length ec (List.map rowP ps) ∧ LT W0.heap.size w2.heap.size w' ea ps.length ∧ (∀ g, v.ownBlock = some g → g < W0.heap.size ∨ w2.heap.size ≤ g) ∧ w2.heap.size ≤ w'.heap.size)) (fun _ i _ => ps.length - (intOf i).toNat)
 case atStart => exact ⟨0, Nat.zero_le _, rfl, HST.out, HB2.out, HI.out, HLT.out, fun g h => .inl (by have := HV0.out g h; have := HW0.out; omega), Nat.le_refl _⟩
 case round =>
  obtain ⟨k, hk, hik, hA⟩ := hrel
  subst hik
  obtain ⟨hO, hB', hE, hEL, hOB, hS2⟩ := hA.out
  have HEL := Lib.hid hEL
  have HOB := Lib.hid hOB
  have HS2 := Lib.hid hS2
  have HO := Lib.hid hO
  have HC' := Lib.hid hB'
  have HE := Lib.hid hE
  by_cases hlt : k < ps.length
  ·obtain ⟨bt, ot, rfl, hrow⟩ := HE.out.some (by omega)
   obtain ⟨r1, n1, q1, cr, ir⟩ := hrow k hlt
   obtain ⟨m, n, hmn, hn64, hek⟩ := HIM.out k hlt
   have hrk : (List.map rowP ps).getD k [] = rowP (ps.getD k (0, 0)) := by simp [List.getD, hlt]
   rw [hrk] at ir
   have hn1 : n1 = 2 := by have := ir.1; simpa [rowP] using this.symm
   subst hn1
   obtain ⟨br, orr, rfl, hcell⟩ := ir.some (by omega)
   have e0 := hcell 0 (by omega)
   have e1 := hcell 1 (by omega)
   rw [hek] at e0 e1
   simp only [rowP, List.getD_cons_zero, List.getD_cons_succ, Nat.add_zero] at e0 e1
   have hk0 : (0 : Int) ≤ (k : Int) := by omega
   have hk1 : (k : Int) < (ps.length : Int) := by omega
   have kb0 := cell_below hB' C01.out.1
   have kb1 := cell_below hB' C01.out.2
   have lpb := World.block_lt_of_cell? _ _ kb0
   have HKS := Lib.hid (hgK_s (ts := ts) hlt)
   have HKL := Lib.hid (hgK_len ts ps k)
   have HEK := Lib.hid hek
   have HIJ : Hid ((m : Int) ≠ (n : Int)) := Lib.hid (by omega)
   have hr1 : (wr.alloc (.cells #[.int .i64 (m : Int), .int .i64 (n : Int)] 2)).ownsRow wr.heap.size 2 1 (.slice (some ⟨wr.heap.size, 0, none⟩) 2 2) 2 (ints [(m : Int), (n : Int)]) :=
    World.ownsRow_lit (base := wr.heap.size) (e := 2) (size := 1) wr #[.int .i64 (m : Int), .int .i64 (n : Int)] 2 (Nat.le_refl _) (by decide) rfl
   have HR1 := Lib.hid hr1
   have HBR : Hid (Below wr.heap.size wr (wr.alloc (.cells #[.int .i64 (m : Int), .int .i64 (n : Int)] 2))) := Lib.hid ((Below.refl _ _).alloc (Nat.le_refl _) _)
   clear hA hO hB' hE hrow ir hcell hek hrk hr1 hEL hOB hS2
   go_wp2
   clear cr e0 e1
   have KB := Lib.hid (And.intro kb0 kb1)
   clear kb0 kb1 lpb
   obtain ⟨V, hV⟩ : ∃ V, V = wr := ⟨_, rfl⟩
   subst hV
   go_loopw [8, 39] (fun v i w' => ∃ y : Nat, y ≤ tl ∧ i = .int .i64 y ∧ Aside (w'.ownsRow V.heap.size 2 1 v (2 + (atL ts (m : Int) (n : Int) y).length) (ints ((m : Int) :: (n : Int) :: thirds ts (m : Int) (n : Int) (atL ts (m : Int) (n : Int) y))) ∧ Below V.heap.size V w')) (fun _ i _ => tl - (intOf i).toNat)
   case atStart => exact ⟨0, Nat.zero_le _, rfl, HR1.out, HBR.out⟩
   case round =>
    obtain ⟨y, hy, hiy, hA⟩ := hrel
    subst hiy
    obtain ⟨hO5, hB5⟩ := hA.out
    have HO5 := Lib.hid hO5
    have HB5 := Lib.hid hB5
    have HBW := Lib.hid (HC'.out.trans (hB5.mono HC'.out.size))
    have hsz5 := hB5.size
    have hal := atL_len ts (m : Int) (n : Int) y
    by_cases hly : y < tl
    ·obtain ⟨tb, to, rfl, hrow2⟩ := (HTS.out.below HBW.out).some (by omega)
     obtain ⟨r2, n2, q2, cr2, ir2⟩ := hrow2 y hly
     have hn2 : n2 = 3 := ir2.1.symm.trans (H3.out y hly)
     subst hn2
     have hy0' : (0 : Int) ≤ (y : Int) := by omega
     have hy1' : (y : Int) < (tl : Int) := by omega
     have kb1 := cell_below hB5 KB.out.2
     have hTy := HT3.out y (by have := HTL.out; omega)
     have HTR := Lib.hid (fun w' h => l03Third r2 q2 cs.length (ts.getD y []) (m : Int) (n : Int) w' h hTy HIJ.out)
     have HIR2 := Lib.hid ir2
     have HAS : Hid (atL ts (m : Int) (n : Int) (y + 1) = atL ts (m : Int) (n : Int) y ++ (bif hasB (ts.getD y []) (m : Int) && hasB (ts.getD y []) (n : Int) then [(y : Int)] else [])) := rfl
     have HYS := Lib.hid (thS_yes hTy HIJ.out)
     clear hA hO5 hB5 hrow2 ir2 hTy
     go_wp2_with fail
     refine (HTR.out _ HIR2.out).mono ?_
     rintro e w6 ⟨rfl, hw6⟩
     rw [hw6]
     clear hw6 kb1 cr2
     unfold thS
     cases hb : (hasB (ts.getD y []) (m : Int) && hasB (ts.getD y []) (n : Int))
     ·rw [hb] at HAS
      have HAS2 : Hid (atL ts (m : Int) (n : Int) (y + 1) = atL ts (m : Int) (n : Int) y) := Lib.hid (by rw [HAS.out]; simp)
      have hng : ¬ (0 : Int) ≤ (-1 : Int) := by decide
      simp only [cond_false]
      have hL128 := HL.out
      go_wp2
      go_roundw
      case rel => exact ⟨y + 1, by omega, by go_num, by rw [HAS2.out]; exact HO5.out, HB5.out⟩
      case measure => simp [intOf]; omega
     ·rw [hb] at HAS
      simp only [Bool.and_eq_true] at hb
      have hth := HYS.out hb.1 hb.2
      have HAS2 : Hid (atL ts (m : Int) (n : Int) (y + 1) = atL ts (m : Int) (n : Int) y ++ [(y : Int)]) := Lib.hid (by rw [HAS.out]; rfl)
      have HTH : Hid (thirds ts (m : Int) (n : Int) (atL ts (m : Int) (n : Int) (y + 1)) = thirds ts (m : Int) (n : Int) (atL ts (m : Int) (n : Int) y) ++ [thN (ts.getD y []) (m : Int) (n : Int)]) := Lib.hid (by rw [HAS2.out]; unfold thirds; rw [List.map_append, List.map_cons, List.map_nil, Int.toNat_natCast])
      simp only [cond_true]
      generalize thN (ts.getD y []) (m : Int) (n : Int) = z at *
      obtain ⟨hth0, _⟩ := hth
      clear hb HYS
      go_wp2_with (at_builtin; refine wpList_append_own _ rfl _ _ 33 rfl V.heap.size 2 i0 (.int .i64 0) 1 8 Tryz.underlying33 hi hz0 hz1 hz2 rfl (by decide) _ _ _ rfl (HO5.out.alloc _) ⟨wr.heap.size, 0, none⟩ 1 1 [.int .i64 z] rfl rfl ?c1 ?c2 ?c3 ?c4 ?c5 ?_)
      try (case c1 =>
       intro j u hj
       match j, hj with
       | 0, hj => simp at hj; subst hj; simp [Addr.add])
      case c2 => first | rfl | (intro u hu; simp at hu; subst hu; rfl)
      case c3 => have := HL.out; unfold maxLen; omega
      case c4 => have := HL.out; omega
      case c5 => simp; omega
      ·intro v' w7 hown' hgrow _
       have hB7 : Below V.heap.size V (wr.alloc (.cells #[.int .i64 z] 2)) := HB5.out.alloc hsz5 _
       have HB7 := Lib.hid (hB7.grown hgrow hB7.size (fun q hq => (HO5.out.lt q hq).1))
       have HO7 : Hid (w7.ownsRow V.heap.size 2 1 v' (2 + (atL ts (m : Int) (n : Int) (y + 1)).length) (ints ((m : Int) :: (n : Int) :: thirds ts (m : Int) (n : Int) (atL ts (m : Int) (n : Int) (y + 1))))) := Lib.hid (by
        rw [HTH.out, HAS2.out]
        have e : ints ((m : Int) :: (n : Int) :: (thirds ts (m : Int) (n : Int) (atL ts (m : Int) (n : Int) y) ++ [z])) = ints ((m : Int) :: (n : Int) :: thirds ts (m : Int) (n : Int) (atL ts (m : Int) (n : Int) y)) ++ [.int .i64 z] := by simp [ints]
        rw [e, List.length_append, List.length_singleton, ← Nat.add_assoc]
        exact hown')
       clear hown' hgrow hB7
       have hL128 := HL.out
       go_wp2
       go_roundw
       case rel => exact ⟨y + 1, by omega, by go_num, HO7.out, HB7.out⟩
       case measure => simp [intOf]; omega
    ·obtain rfl : y = tl := by omega
     have htl := HTL.out
     have hIE := HE.out.below HB5.out
     have HIE := Lib.hid hIE
     obtain ⟨va, vc, hva⟩ := owns_slice hO5
     obtain ⟨sz, hsz⟩ : ∃ sz, (atL ts (m : Int) (n : Int) y).length = sz := ⟨_, rfl⟩
     rw [hsz] at hva hal
     have hH : isH ts ((m : Int), (n : Int)) = decide (sz = 2) := by unfold isH; rw [htl, hsz]
     have hrw : hrow ts ((m : Int), (n : Int)) = (m : Int) :: (n : Int) :: thirds ts (m : Int) (n : Int) (atL ts (m : Int) (n : Int) y) := by unfold hrow; rw [htl]
     have hK := HKS.out
     rw [HEK.out, hH] at hK
     have HK := Lib.hid hK
     have HRW := Lib.hid hrw
     have HSZ := Lib.hid hsz
     have hOT := HO.out.up HB5.out
     have HOT := Lib.hid hOT
     have HELY := Lib.hid (HEL.out.below hB5)
     have HSY : Hid (w2.heap.size ≤ wr.heap.size) := Lib.hid (Nat.le_trans HS2.out hB5.size)
     clear hA hIE hsz hH hrw hK hOT hB5
     have hL128 := HL.out
     by_cases h4 : sz = 2
     ·have h4' : (((2 + sz : Nat) : Int) == 4) = true := by simp [h4]
      subst hva
      subst h4
      have hl4 : ((m : Int) :: (n : Int) :: thirds ts (m : Int) (n : Int) (atL ts (m : Int) (n : Int) y)).length = 4 := by simp [thirds, HSZ.out]
      have ho5 : wr.ownsRow V.heap.size 2 1 (.slice va 4 vc) ((m : Int) :: (n : Int) :: thirds ts (m : Int) (n : Int) (atL ts (m : Int) (n : Int) y)).length (ints ((m : Int) :: (n : Int) :: thirds ts (m : Int) (n : Int) (atL ts (m : Int) (n : Int) y))) := by
       rw [HSZ.out] at hO5
       rw [hl4]
       exact hO5
      have HO5 := Lib.hid ho5
      clear hO5 ho5 hl4
      have HKY : Hid (hgK ts ps (k + 1) = hgK ts ps k ++ [(m : Int) :: (n : Int) :: thirds ts (m : Int) (n : Int) (atL ts (m : Int) (n : Int) y)]) := Lib.hid (by rw [HK.out, ← HRW.out]; rfl)
      obtain ⟨rows, hrow, hrows⟩ := HOT.out.congr (us := hgK ts ps k ++ [(m : Int) :: (n : Int) :: thirds ts (m : Int) (n : Int) (atL ts (m : Int) (n : Int) y)]) (fun j hj => getD_app hj)
      have HROW := Lib.hid hrow
      have HROWS := Lib.hid hrows
      have hkl := HKL.out
      have hps := HLEN.out
      have hbw := HBW.out.size
      clear hrow hrows
      go_wp2_with (at_builtin; refine wpList_append_own_at _ rfl _ _ 23 rfl w.heap.size 33 j0 (.slice none 0 0) 1 24 Tryz.underlying23 hj hy0 hy1 hy2 rfl (by decide) _ _ _ rfl (HROW.out.alloc _) ⟨wr.heap.size, 0, none⟩ 1 1 [.slice va 4 vc] rfl rfl ?d1 ?d2 ?d3 ?d4 ?d5 ?_)
      try (case d1 =>
       intro j u hj
       match j, hj with
       | 0, hj => simp at hj; subst hj; simp [Addr.add])
      case d2 => first | rfl | (intro u hu; simp at hu; subst hu; rfl)
      case d3 => unfold maxLen; omega
      case d4 => omega
      case d5 => first | omega | (simp; omega)
      ·intro v' w7 hown' hgrow _ hat
       have hAL : Below wr.heap.size wr (wr.alloc (.cells #[.slice va 4 vc] 33)) := (Below.refl _ _).alloc (Nat.le_refl _) _
       have HT7 : Hid (OwnT w.heap.size w7 v' (hgK ts ps (k + 1)).length (hgK ts ps (k + 1))) := Lib.hid (by
        rw [HKY.out, List.length_append, List.length_singleton]
        refine OwnT.snoc (HROW.out.alloc _) (fun j hj => ?_) (by rw [getD_end]; exact owns_low (owns_up HO5.out hAL) HC'.out.size) hgrow hown'
        obtain ⟨u, e1, e2⟩ := HROWS.out j hj
        exact ⟨u, e1, owns_up e2 hAL⟩)
       have hB7 : Below w.heap.size w (wr.alloc (.cells #[.slice va 4 vc] 33)) := HBW.out.alloc HBW.out.size _
       have HB7 := Lib.hid (hB7.grown hgrow hB7.size (fun q hq => (HROW.out.lt q hq).1))
       have hE7 := ts_grown (HIE.out.below hAL) (HELY.out.below hAL) hgrow HOB.out
       have HE7 := Lib.hid hE7
       have HOB7 : Hid (∀ g, v'.ownBlock = some g → g < W0.heap.size ∨ w2.heap.size ≤ g) := Lib.hid (fun g h => by
        rcases hat with hat | hat
        ·exact HOB.out g (by rw [← hat]; exact h)
        ·rw [hat] at h
         cases h
         have := HSY.out
         exact .inr (by first | omega | (simp; omega)))
       have HS7 : Hid (w2.heap.size ≤ w7.heap.size) := Lib.hid (by have h1 := HSY.out; have h2 := hgrow.size; simp at h2; omega)
       clear hown' hgrow hat hE7 hB7 hAL
       go_wp2
       go_roundw
       case rel => exact ⟨k + 1, by omega, by go_num, HT7.out, HB7.out, HE7.out.1, HE7.out.2, HOB7.out, HS7.out⟩
       case measure => simp [intOf]; omega
     ·have h4' : (((2 + sz : Nat) : Int) == 4) = false := beq_eq_false_iff_ne.2 (by omega)
      subst hva
      have HKY : Hid (hgK ts ps (k + 1) = hgK ts ps k) := Lib.hid (by rw [HK.out, decide_eq_false h4]; simp)
      have hps := HLEN.out
      clear hO5
      go_wp2
      go_roundw
      case rel => exact ⟨k + 1, by omega, by go_num, by rw [HKY.out]; exact HOT.out, HBW.out, HIE.out, HELY.out, HOB.out, HSY.out⟩
      case measure => simp [intOf]; omega
  ·obtain rfl : k = ps.length := by omega
   clear hA hO hB' hE hEL hOB hS2
   go_wp2
   go_ret
   exact ⟨⟨_, rfl, HO.out⟩, HC'.out⟩
end Go.Proofs.YtabccmobmppdnaaGreat

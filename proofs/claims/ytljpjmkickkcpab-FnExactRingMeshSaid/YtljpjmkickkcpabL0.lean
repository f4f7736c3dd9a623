
/-
The laws of forms return true: their walks. Conditions: what the program and the model return.
-/
import Derived.Test.YtljpjmkickkcpabHmJ0
import Derived.Test.YtljpjmkickkcpabHmH
import Derived.Test.YtljpjmkickkcpabHmS
import Derived.Test.YtljpjmkickkcpabMshO
namespace Go.Proofs.Ytljpjmkickkcpab
open Go Fk Go.RowKit
set_option linter.unusedVariables false
set_option maxRecDepth 16000
set_option maxHeartbeats 4000000 in
theorem gridMesh_law (wide high : Int) (z : Nat) (rcs : List C3) (rts : List (List Int)) (ok : Bool) (hsp : ∀ w, Calls Try.prog 29 #[.int .i64 wide, .int .i64 high, .float .f32 z] w fun e w' => Made w w' e ok rcs rts) (him : ∀ w, Calls Try.prog 30 #[.int .i64 wide, .int .i64 high, .float .f32 z] w fun e w' => MadeG w w' e ok rcs rts) (len1 : rcs.length ≤ 64) (len2 : rts.length ≤ 128) (w : World) :
    Calls Try.prog 7 #[.int .i64 wide, .int .i64 high, .float .f32 z] w fun e w' => e = .returned (.bool true) ∧ Below w.heap.size w w' := by
  have HSP := Lib.hid hsp
  have HIM := Lib.hid him
  have hvb : (ok == ok) = true := by cases ok <;> rfl
  have hvb' : (ok != ok) = false := by cases ok <;> rfl
  clear hsp him
  go_enter Try.func7, Try.ntmps7
  go_wp2_with fail
  refine (HSP.out _).mono ?_
  rintro e w3 ⟨⟨sa, sc, sa', sc', rfl, hSV, hST, hLV, hLT⟩, hB3⟩
  have HB3 := Lib.hid hB3
  have lt3 := hB3.size
  have hX : Below w3.heap.size w3 (w3.alloc (.cells #[.slice sa rcs.length sc, .slice sa' rts.length sc'] 32)) := (Below.refl _ _).alloc (Nat.le_refl _) _
  have s0 : (w3.alloc (.cells #[.slice sa rcs.length sc, .slice sa' rts.length sc'] 32)).cell? ⟨w3.heap.size, 0, none⟩ = some (.slice sa rcs.length sc) := by go_simp
  have s1 : (w3.alloc (.cells #[.slice sa rcs.length sc, .slice sa' rts.length sc'] 32)).cell? ⟨w3.heap.size, 1, none⟩ = some (.slice sa' rts.length sc') := by go_simp
  have hs3 : (w3.alloc (.cells #[.slice sa rcs.length sc, .slice sa' rts.length sc'] 32)).heap.size = w3.heap.size + 1 := by simp
  have HS3 := Lib.hid hs3
  have SV := Lib.hid (hSV.below hX)
  have ST := Lib.hid (hST.below hX)
  have LV3 := Lib.hid hLV
  have LT3 := Lib.hid (hLT.below hX)
  have HB3' := Lib.hid (HB3.out.trans (hX.mono HB3.out.size))
  clear hB3 hSV hST hLV hLT hX hs3
  go_wp2_with fail
  generalize (w3.alloc (.cells #[.slice sa rcs.length sc, .slice sa' rts.length sc'] 32)) = W3 at *
  generalize w3.heap.size = S at *
  refine (HIM.out _).mono ?_
  rintro e w5 ⟨⟨ga, gc, ga', gc', F, rfl, hGV, hGT, hGM⟩, hB5⟩
  replace s0 := cell_below hB5 s0
  replace s1 := cell_below hB5 s1
  have SV := Lib.hid (SV.out.below hB5)
  have ST := Lib.hid (ST.out.below hB5)
  have LT5 := Lib.hid (LT3.out.below hB5)
  have HB5 := Lib.hid (HB3'.out.trans (hB5.mono HB3'.out.size))
  have HS45 := Lib.hid hB5.size
  have GV := Lib.hid hGV
  have GT := Lib.hid hGT
  have GM5 := Lib.hid hGM
  clear hB5 hGV hGT hGM
  have hX : Below w5.heap.size w5 (w5.alloc (.cells #[.slice ga rcs.length gc, .slice ga' rts.length gc'] 32)) := (Below.refl _ _).alloc (Nat.le_refl _) _
  have g0 : (w5.alloc (.cells #[.slice ga rcs.length gc, .slice ga' rts.length gc'] 32)).cell? ⟨w5.heap.size, 0, none⟩ = some (.slice ga rcs.length gc) := by go_simp
  have g1 : (w5.alloc (.cells #[.slice ga rcs.length gc, .slice ga' rts.length gc'] 32)).cell? ⟨w5.heap.size, 1, none⟩ = some (.slice ga' rts.length gc') := by go_simp
  have hls : S < w5.heap.size := World.block_lt_of_cell? _ _ s0
  have hs5 : (w5.alloc (.cells #[.slice ga rcs.length gc, .slice ga' rts.length gc'] 32)).heap.size = w5.heap.size + 1 := by simp
  have HS5 := Lib.hid hs5
  have S0 := Lib.hid (cell_below hX s0)
  have S1 := Lib.hid (cell_below hX s1)
  have SV := Lib.hid (SV.out.below hX)
  have ST := Lib.hid (ST.out.below hX)
  have LT5 := Lib.hid (LT5.out.below hX)
  have GV := Lib.hid (GV.out.below hX)
  have GT := Lib.hid (GT.out.below hX)
  have GM5' := Lib.hid (GM5.out.below hX)
  have HB5 := Lib.hid (HB5.out.trans (hX.mono HB5.out.size))
  clear hX hs5
  have lv0 := fun (o : Obj) => cell_alloc (o := o) s0
  have lv1 := fun (o : Obj) => cell_alloc (o := o) s1
  go_wp2_with fail
  clear lv0 lv1
  generalize (w5.alloc (.cells #[.slice ga rcs.length gc, .slice ga' rts.length gc'] 32)) = W5 at *
  clear hls
  generalize w5.heap.size = G at *
  replace s0 := S0.out
  replace s1 := S1.out
  refine (laws_eqMesh _ _ _ _ _ _ _ _ _ _ rcs rts _ GV.out GT.out SV.out ST.out).mono ?_
  rintro e w6 ⟨rfl, hB6⟩
  replace s0 := cell_below hB6 s0
  replace s1 := cell_below hB6 s1
  replace g0 := cell_below hB6 g0
  replace g1 := cell_below hB6 g1
  have SV := Lib.hid (SV.out.below hB6)
  have ST := Lib.hid (ST.out.below hB6)
  have LT6 := Lib.hid (LT5.out.below hB6)
  have GM6 := Lib.hid (GM5'.out.below hB6)
  have HS56 := Lib.hid hB6.size
  have HB6 := Lib.hid (HB5.out.trans (hB6.mono HB5.out.size))
  clear hB6
  have z3 := HS3.out
  have z45 := HS45.out
  have z5 := HS5.out
  have z56 := HS56.out
  go_wp2_with fail
  refine (mark_gm W3.heap.size G ga ga' rcs.length gc rts.length gc' F w6 GM6.out (by omega) (by omega) (by omega)).mono ?_
  rintro e w9 ⟨rfl, hmk, hM9⟩
  have s0 := hM9.cell (.inl (by omega)) s0
  have s1 := hM9.cell (.inl (by omega)) s1
  have g0 := hM9.cell (.inr (by omega)) g0
  have g1 := hM9.cell (.inr (by omega)) g1
  have SV9 := Lib.hid (vs_away SV.out LV3.out hM9 (.inl (by omega)))
  have hst := ts_away ST.out LT6.out hM9 (.inl (by omega))
  have ST9 := Lib.hid hst.1
  have HB9 := Lib.hid (HB6.out.trans (hM9.below.mono (by omega)))
  have HMK := Lib.hid hmk
  have l1 := len1
  have l2 := len2
  clear hmk hM9 hst
  have HHG := Lib.hid (fun (w : World) (h : MrkM w ga ga' rcs.length rts.length F) => held_gm ga ga' rcs.length gc rts.length gc' F w h (by omega) (by omega))
  generalize 1 + rcs.length * 3 + rts.length * 3 = N at *
  have hn0 : ¬ ((N : Int) < 0) := by omega
  go_wp2_with fail
  refine (HHG.out w9 HMK.out).mono ?_
  rintro e w10 ⟨rfl, hB10⟩
  replace s0 := cell_below hB10 s0
  replace s1 := cell_below hB10 s1
  replace g0 := cell_below hB10 g0
  replace g1 := cell_below hB10 g1
  have SV10 := Lib.hid (SV9.out.below hB10)
  have ST10 := Lib.hid (ST9.out.below hB10)
  have MK10 := Lib.hid (HMK.out.below hB10)
  have HB10 := Lib.hid (HB9.out.trans (hB10.mono HB9.out.size))
  clear hB10
  go_wp2_with fail
  refine (HIM.out _).mono ?_
  rintro e w12 ⟨⟨ha, hc, ha', hc', F', rfl, hHV, hHT, _⟩, hB12⟩
  replace s0 := cell_below hB12 s0
  replace s1 := cell_below hB12 s1
  replace g0 := cell_below hB12 g0
  replace g1 := cell_below hB12 g1
  have hX : Below w12.heap.size w12 (w12.alloc (.cells #[.slice ha rcs.length hc, .slice ha' rts.length hc'] 32)) := (Below.refl _ _).alloc (Nat.le_refl _) _
  have hls : S < w12.heap.size := World.block_lt_of_cell? _ _ s0
  have S0 := Lib.hid (cell_below hX s0)
  have S1 := Lib.hid (cell_below hX s1)
  have G0 := Lib.hid (cell_below hX g0)
  have G1 := Lib.hid (cell_below hX g1)
  have SV12 := Lib.hid ((SV10.out.below hB12).below hX)
  have ST12 := Lib.hid ((ST10.out.below hB12).below hX)
  have HV12 := Lib.hid (hHV.below hX)
  have HT12 := Lib.hid (hHT.below hX)
  have MK12 := Lib.hid ((MK10.out.below hB12).below hX)
  have HB12' := HB10.out.trans (hB12.mono HB10.out.size)
  have HB12 := Lib.hid (HB12'.trans (hX.mono HB12'.size))
  have lv0 := fun (o : Obj) => cell_alloc (o := o) s0
  have lv1 := fun (o : Obj) => cell_alloc (o := o) s1
  clear hB12 hHV hHT HB12' hX
  go_wp2_with fail
  clear lv0 lv1 hls s0 s1 g0 g1
  generalize (w12.alloc (.cells #[.slice ha rcs.length hc, .slice ha' rts.length hc'] 32)) = W12 at *
  have g0 := G0.out
  have g1 := G1.out
  refine (laws_eqMesh _ _ _ _ _ _ _ _ _ _ rcs rts _ HV12.out HT12.out SV12.out ST12.out).mono ?_
  rintro e w13 ⟨rfl, hB13⟩
  replace g0 := cell_below hB13 g0
  replace g1 := cell_below hB13 g1
  have MK13 := Lib.hid (MK12.out.below hB13)
  have HB13 := Lib.hid (HB12.out.trans (hB13.mono HB12.out.size))
  clear hB13
  go_wp2_with fail
  refine (HHG.out w13 MK13.out).mono ?_
  rintro e w14 ⟨rfl, hB14⟩
  have HB14 := Lib.hid (HB13.out.trans (hB14.mono HB13.out.size))
  clear hB14
  go_wp2
  go_ret
  exact ⟨rfl, HB14.out⟩
set_option maxHeartbeats 4000000 in
theorem boxMesh_law (z : Nat) (rcs : List C3) (rts : List (List Int)) (ok : Bool) (hsp : ∀ w, Calls Try.prog 33 #[.float .f32 z] w fun e w' => Made w w' e ok rcs rts) (him : ∀ w, Calls Try.prog 34 #[.float .f32 z] w fun e w' => MadeG w w' e ok rcs rts) (len1 : rcs.length ≤ 64) (len2 : rts.length ≤ 128) (w : World) :
    Calls Try.prog 9 #[.float .f32 z] w fun e w' => e = .returned (.bool true) ∧ Below w.heap.size w w' := by
  have HSP := Lib.hid hsp
  have HIM := Lib.hid him
  have hvb : (ok == ok) = true := by cases ok <;> rfl
  have hvb' : (ok != ok) = false := by cases ok <;> rfl
  clear hsp him
  go_enter Try.func9, Try.ntmps9
  go_wp2_with fail
  refine (HSP.out _).mono ?_
  rintro e w3 ⟨⟨sa, sc, sa', sc', rfl, hSV, hST, hLV, hLT⟩, hB3⟩
  have HB3 := Lib.hid hB3
  have lt3 := hB3.size
  have hX : Below w3.heap.size w3 (w3.alloc (.cells #[.slice sa rcs.length sc, .slice sa' rts.length sc'] 32)) := (Below.refl _ _).alloc (Nat.le_refl _) _
  have s0 : (w3.alloc (.cells #[.slice sa rcs.length sc, .slice sa' rts.length sc'] 32)).cell? ⟨w3.heap.size, 0, none⟩ = some (.slice sa rcs.length sc) := by go_simp
  have s1 : (w3.alloc (.cells #[.slice sa rcs.length sc, .slice sa' rts.length sc'] 32)).cell? ⟨w3.heap.size, 1, none⟩ = some (.slice sa' rts.length sc') := by go_simp
  have hs3 : (w3.alloc (.cells #[.slice sa rcs.length sc, .slice sa' rts.length sc'] 32)).heap.size = w3.heap.size + 1 := by simp
  have HS3 := Lib.hid hs3
  have SV := Lib.hid (hSV.below hX)
  have ST := Lib.hid (hST.below hX)
  have LV3 := Lib.hid hLV
  have LT3 := Lib.hid (hLT.below hX)
  have HB3' := Lib.hid (HB3.out.trans (hX.mono HB3.out.size))
  clear hB3 hSV hST hLV hLT hX hs3
  go_wp2_with fail
  generalize (w3.alloc (.cells #[.slice sa rcs.length sc, .slice sa' rts.length sc'] 32)) = W3 at *
  generalize w3.heap.size = S at *
  refine (HIM.out _).mono ?_
  rintro e w5 ⟨⟨ga, gc, ga', gc', F, rfl, hGV, hGT, hGM⟩, hB5⟩
  replace s0 := cell_below hB5 s0
  replace s1 := cell_below hB5 s1
  have SV := Lib.hid (SV.out.below hB5)
  have ST := Lib.hid (ST.out.below hB5)
  have LT5 := Lib.hid (LT3.out.below hB5)
  have HB5 := Lib.hid (HB3'.out.trans (hB5.mono HB3'.out.size))
  have HS45 := Lib.hid hB5.size
  have GV := Lib.hid hGV
  have GT := Lib.hid hGT
  have GM5 := Lib.hid hGM
  clear hB5 hGV hGT hGM
  have hX : Below w5.heap.size w5 (w5.alloc (.cells #[.slice ga rcs.length gc, .slice ga' rts.length gc'] 32)) := (Below.refl _ _).alloc (Nat.le_refl _) _
  have g0 : (w5.alloc (.cells #[.slice ga rcs.length gc, .slice ga' rts.length gc'] 32)).cell? ⟨w5.heap.size, 0, none⟩ = some (.slice ga rcs.length gc) := by go_simp
  have g1 : (w5.alloc (.cells #[.slice ga rcs.length gc, .slice ga' rts.length gc'] 32)).cell? ⟨w5.heap.size, 1, none⟩ = some (.slice ga' rts.length gc') := by go_simp
  have hls : S < w5.heap.size := World.block_lt_of_cell? _ _ s0
  have hs5 : (w5.alloc (.cells #[.slice ga rcs.length gc, .slice ga' rts.length gc'] 32)).heap.size = w5.heap.size + 1 := by simp
  have HS5 := Lib.hid hs5
  have S0 := Lib.hid (cell_below hX s0)
  have S1 := Lib.hid (cell_below hX s1)
  have SV := Lib.hid (SV.out.below hX)
  have ST := Lib.hid (ST.out.below hX)
  have LT5 := Lib.hid (LT5.out.below hX)
  have GV := Lib.hid (GV.out.below hX)
  have GT := Lib.hid (GT.out.below hX)
  have GM5' := Lib.hid (GM5.out.below hX)
  have HB5 := Lib.hid (HB5.out.trans (hX.mono HB5.out.size))
  clear hX hs5
  have lv0 := fun (o : Obj) => cell_alloc (o := o) s0
  have lv1 := fun (o : Obj) => cell_alloc (o := o) s1
  go_wp2_with fail
  clear lv0 lv1
  generalize (w5.alloc (.cells #[.slice ga rcs.length gc, .slice ga' rts.length gc'] 32)) = W5 at *
  clear hls
  generalize w5.heap.size = G at *
  replace s0 := S0.out
  replace s1 := S1.out
  refine (laws_eqMesh _ _ _ _ _ _ _ _ _ _ rcs rts _ GV.out GT.out SV.out ST.out).mono ?_
  rintro e w6 ⟨rfl, hB6⟩
  replace s0 := cell_below hB6 s0
  replace s1 := cell_below hB6 s1
  replace g0 := cell_below hB6 g0
  replace g1 := cell_below hB6 g1
  have SV := Lib.hid (SV.out.below hB6)
  have ST := Lib.hid (ST.out.below hB6)
  have LT6 := Lib.hid (LT5.out.below hB6)
  have GM6 := Lib.hid (GM5'.out.below hB6)
  have HS56 := Lib.hid hB6.size
  have HB6 := Lib.hid (HB5.out.trans (hB6.mono HB5.out.size))
  clear hB6
  have z3 := HS3.out
  have z45 := HS45.out
  have z5 := HS5.out
  have z56 := HS56.out
  go_wp2_with fail
  refine (mark_gm W3.heap.size G ga ga' rcs.length gc rts.length gc' F w6 GM6.out (by omega) (by omega) (by omega)).mono ?_
  rintro e w9 ⟨rfl, hmk, hM9⟩
  have s0 := hM9.cell (.inl (by omega)) s0
  have s1 := hM9.cell (.inl (by omega)) s1
  have g0 := hM9.cell (.inr (by omega)) g0
  have g1 := hM9.cell (.inr (by omega)) g1
  have SV9 := Lib.hid (vs_away SV.out LV3.out hM9 (.inl (by omega)))
  have hst := ts_away ST.out LT6.out hM9 (.inl (by omega))
  have ST9 := Lib.hid hst.1
  have HB9 := Lib.hid (HB6.out.trans (hM9.below.mono (by omega)))
  have HMK := Lib.hid hmk
  have l1 := len1
  have l2 := len2
  clear hmk hM9 hst
  have HHG := Lib.hid (fun (w : World) (h : MrkM w ga ga' rcs.length rts.length F) => held_gm ga ga' rcs.length gc rts.length gc' F w h (by omega) (by omega))
  generalize 1 + rcs.length * 3 + rts.length * 3 = N at *
  have hn0 : ¬ ((N : Int) < 0) := by omega
  go_wp2_with fail
  refine (HHG.out w9 HMK.out).mono ?_
  rintro e w10 ⟨rfl, hB10⟩
  replace s0 := cell_below hB10 s0
  replace s1 := cell_below hB10 s1
  replace g0 := cell_below hB10 g0
  replace g1 := cell_below hB10 g1
  have SV10 := Lib.hid (SV9.out.below hB10)
  have ST10 := Lib.hid (ST9.out.below hB10)
  have MK10 := Lib.hid (HMK.out.below hB10)
  have HB10 := Lib.hid (HB9.out.trans (hB10.mono HB9.out.size))
  clear hB10
  go_wp2_with fail
  refine (HIM.out _).mono ?_
  rintro e w12 ⟨⟨ha, hc, ha', hc', F', rfl, hHV, hHT, _⟩, hB12⟩
  replace s0 := cell_below hB12 s0
  replace s1 := cell_below hB12 s1
  replace g0 := cell_below hB12 g0
  replace g1 := cell_below hB12 g1
  have hX : Below w12.heap.size w12 (w12.alloc (.cells #[.slice ha rcs.length hc, .slice ha' rts.length hc'] 32)) := (Below.refl _ _).alloc (Nat.le_refl _) _
  have hls : S < w12.heap.size := World.block_lt_of_cell? _ _ s0
  have S0 := Lib.hid (cell_below hX s0)
  have S1 := Lib.hid (cell_below hX s1)
  have G0 := Lib.hid (cell_below hX g0)
  have G1 := Lib.hid (cell_below hX g1)
  have SV12 := Lib.hid ((SV10.out.below hB12).below hX)
  have ST12 := Lib.hid ((ST10.out.below hB12).below hX)
  have HV12 := Lib.hid (hHV.below hX)
  have HT12 := Lib.hid (hHT.below hX)
  have MK12 := Lib.hid ((MK10.out.below hB12).below hX)
  have HB12' := HB10.out.trans (hB12.mono HB10.out.size)
  have HB12 := Lib.hid (HB12'.trans (hX.mono HB12'.size))
  have lv0 := fun (o : Obj) => cell_alloc (o := o) s0
  have lv1 := fun (o : Obj) => cell_alloc (o := o) s1
  clear hB12 hHV hHT HB12' hX
  go_wp2_with fail
  clear lv0 lv1 hls s0 s1 g0 g1
  generalize (w12.alloc (.cells #[.slice ha rcs.length hc, .slice ha' rts.length hc'] 32)) = W12 at *
  have g0 := G0.out
  have g1 := G1.out
  refine (laws_eqMesh _ _ _ _ _ _ _ _ _ _ rcs rts _ HV12.out HT12.out SV12.out ST12.out).mono ?_
  rintro e w13 ⟨rfl, hB13⟩
  replace g0 := cell_below hB13 g0
  replace g1 := cell_below hB13 g1
  have MK13 := Lib.hid (MK12.out.below hB13)
  have HB13 := Lib.hid (HB12.out.trans (hB13.mono HB12.out.size))
  clear hB13
  go_wp2_with fail
  refine (HHG.out w13 MK13.out).mono ?_
  rintro e w14 ⟨rfl, hB14⟩
  have HB14 := Lib.hid (HB13.out.trans (hB14.mono HB13.out.size))
  clear hB14
  go_wp2
  go_ret
  exact ⟨rfl, HB14.out⟩
set_option maxHeartbeats 4000000 in
theorem ringMesh_law (sides rows : Int) (z y : Nat) (rcs : List C3) (rts : List (List Int)) (ok : Bool) (hsp : ∀ w, Calls Try.prog 31 #[.int .i64 sides, .int .i64 rows, .float .f32 z, .float .f32 y] w fun e w' => Made w w' e ok rcs rts) (him : ∀ w, Calls Try.prog 32 #[.int .i64 sides, .int .i64 rows, .float .f32 z, .float .f32 y] w fun e w' => MadeG w w' e ok rcs rts) (len1 : rcs.length ≤ 64) (len2 : rts.length ≤ 128) (w : World) :
    Calls Try.prog 8 #[.int .i64 sides, .int .i64 rows, .float .f32 z, .float .f32 y] w fun e w' => e = .returned (.bool true) ∧ Below w.heap.size w w' := by
  have HSP := Lib.hid hsp
  have HIM := Lib.hid him
  have hvb : (ok == ok) = true := by cases ok <;> rfl
  have hvb' : (ok != ok) = false := by cases ok <;> rfl
  clear hsp him
  go_enter Try.func8, Try.ntmps8
  go_wp2_with fail
  refine (HSP.out _).mono ?_
  rintro e w3 ⟨⟨sa, sc, sa', sc', rfl, hSV, hST, hLV, hLT⟩, hB3⟩
  have HB3 := Lib.hid hB3
  have lt3 := hB3.size
  have hX : Below w3.heap.size w3 (w3.alloc (.cells #[.slice sa rcs.length sc, .slice sa' rts.length sc'] 32)) := (Below.refl _ _).alloc (Nat.le_refl _) _
  have s0 : (w3.alloc (.cells #[.slice sa rcs.length sc, .slice sa' rts.length sc'] 32)).cell? ⟨w3.heap.size, 0, none⟩ = some (.slice sa rcs.length sc) := by go_simp
  have s1 : (w3.alloc (.cells #[.slice sa rcs.length sc, .slice sa' rts.length sc'] 32)).cell? ⟨w3.heap.size, 1, none⟩ = some (.slice sa' rts.length sc') := by go_simp
  have hs3 : (w3.alloc (.cells #[.slice sa rcs.length sc, .slice sa' rts.length sc'] 32)).heap.size = w3.heap.size + 1 := by simp
  have HS3 := Lib.hid hs3
  have SV := Lib.hid (hSV.below hX)
  have ST := Lib.hid (hST.below hX)
  have LV3 := Lib.hid hLV
  have LT3 := Lib.hid (hLT.below hX)
  have HB3' := Lib.hid (HB3.out.trans (hX.mono HB3.out.size))
  clear hB3 hSV hST hLV hLT hX hs3
  go_wp2_with fail
  generalize (w3.alloc (.cells #[.slice sa rcs.length sc, .slice sa' rts.length sc'] 32)) = W3 at *
  generalize w3.heap.size = S at *
  refine (HIM.out _).mono ?_
  rintro e w5 ⟨⟨ga, gc, ga', gc', F, rfl, hGV, hGT, hGM⟩, hB5⟩
  replace s0 := cell_below hB5 s0
  replace s1 := cell_below hB5 s1
  have SV := Lib.hid (SV.out.below hB5)
  have ST := Lib.hid (ST.out.below hB5)
  have LT5 := Lib.hid (LT3.out.below hB5)
  have HB5 := Lib.hid (HB3'.out.trans (hB5.mono HB3'.out.size))
  have HS45 := Lib.hid hB5.size
  have GV := Lib.hid hGV
  have GT := Lib.hid hGT
  have GM5 := Lib.hid hGM
  clear hB5 hGV hGT hGM
  have hX : Below w5.heap.size w5 (w5.alloc (.cells #[.slice ga rcs.length gc, .slice ga' rts.length gc'] 32)) := (Below.refl _ _).alloc (Nat.le_refl _) _
  have g0 : (w5.alloc (.cells #[.slice ga rcs.length gc, .slice ga' rts.length gc'] 32)).cell? ⟨w5.heap.size, 0, none⟩ = some (.slice ga rcs.length gc) := by go_simp
  have g1 : (w5.alloc (.cells #[.slice ga rcs.length gc, .slice ga' rts.length gc'] 32)).cell? ⟨w5.heap.size, 1, none⟩ = some (.slice ga' rts.length gc') := by go_simp
  have hls : S < w5.heap.size := World.block_lt_of_cell? _ _ s0
  have hs5 : (w5.alloc (.cells #[.slice ga rcs.length gc, .slice ga' rts.length gc'] 32)).heap.size = w5.heap.size + 1 := by simp
  have HS5 := Lib.hid hs5
  have S0 := Lib.hid (cell_below hX s0)
  have S1 := Lib.hid (cell_below hX s1)
  have SV := Lib.hid (SV.out.below hX)
  have ST := Lib.hid (ST.out.below hX)
  have LT5 := Lib.hid (LT5.out.below hX)
  have GV := Lib.hid (GV.out.below hX)
  have GT := Lib.hid (GT.out.below hX)
  have GM5' := Lib.hid (GM5.out.below hX)
  have HB5 := Lib.hid (HB5.out.trans (hX.mono HB5.out.size))
  clear hX hs5
  have lv0 := fun (o : Obj) => cell_alloc (o := o) s0
  have lv1 := fun (o : Obj) => cell_alloc (o := o) s1
  go_wp2_with fail
  clear lv0 lv1
  generalize (w5.alloc (.cells #[.slice ga rcs.length gc, .slice ga' rts.length gc'] 32)) = W5 at *
  clear hls
  generalize w5.heap.size = G at *
  replace s0 := S0.out
  replace s1 := S1.out
  refine (laws_eqMesh _ _ _ _ _ _ _ _ _ _ rcs rts _ GV.out GT.out SV.out ST.out).mono ?_
  rintro e w6 ⟨rfl, hB6⟩
  replace s0 := cell_below hB6 s0
  replace s1 := cell_below hB6 s1
  replace g0 := cell_below hB6 g0
  replace g1 := cell_below hB6 g1
  have SV := Lib.hid (SV.out.below hB6)
  have ST := Lib.hid (ST.out.below hB6)
  have LT6 := Lib.hid (LT5.out.below hB6)
  have GM6 := Lib.hid (GM5'.out.below hB6)
  have HS56 := Lib.hid hB6.size
  have HB6 := Lib.hid (HB5.out.trans (hB6.mono HB5.out.size))
  clear hB6
  have z3 := HS3.out
  have z45 := HS45.out
  have z5 := HS5.out
  have z56 := HS56.out
  go_wp2_with fail
  refine (mark_gm W3.heap.size G ga ga' rcs.length gc rts.length gc' F w6 GM6.out (by omega) (by omega) (by omega)).mono ?_
  rintro e w9 ⟨rfl, hmk, hM9⟩
  have s0 := hM9.cell (.inl (by omega)) s0
  have s1 := hM9.cell (.inl (by omega)) s1
  have g0 := hM9.cell (.inr (by omega)) g0
  have g1 := hM9.cell (.inr (by omega)) g1
  have SV9 := Lib.hid (vs_away SV.out LV3.out hM9 (.inl (by omega)))
  have hst := ts_away ST.out LT6.out hM9 (.inl (by omega))
  have ST9 := Lib.hid hst.1
  have HB9 := Lib.hid (HB6.out.trans (hM9.below.mono (by omega)))
  have HMK := Lib.hid hmk
  have l1 := len1
  have l2 := len2
  clear hmk hM9 hst
  have HHG := Lib.hid (fun (w : World) (h : MrkM w ga ga' rcs.length rts.length F) => held_gm ga ga' rcs.length gc rts.length gc' F w h (by omega) (by omega))
  generalize 1 + rcs.length * 3 + rts.length * 3 = N at *
  have hn0 : ¬ ((N : Int) < 0) := by omega
  go_wp2_with fail
  refine (HHG.out w9 HMK.out).mono ?_
  rintro e w10 ⟨rfl, hB10⟩
  replace s0 := cell_below hB10 s0
  replace s1 := cell_below hB10 s1
  replace g0 := cell_below hB10 g0
  replace g1 := cell_below hB10 g1
  have SV10 := Lib.hid (SV9.out.below hB10)
  have ST10 := Lib.hid (ST9.out.below hB10)
  have MK10 := Lib.hid (HMK.out.below hB10)
  have HB10 := Lib.hid (HB9.out.trans (hB10.mono HB9.out.size))
  clear hB10
  go_wp2_with fail
  refine (HIM.out _).mono ?_
  rintro e w12 ⟨⟨ha, hc, ha', hc', F', rfl, hHV, hHT, _⟩, hB12⟩
  replace s0 := cell_below hB12 s0
  replace s1 := cell_below hB12 s1
  replace g0 := cell_below hB12 g0
  replace g1 := cell_below hB12 g1
  have hX : Below w12.heap.size w12 (w12.alloc (.cells #[.slice ha rcs.length hc, .slice ha' rts.length hc'] 32)) := (Below.refl _ _).alloc (Nat.le_refl _) _
  have hls : S < w12.heap.size := World.block_lt_of_cell? _ _ s0
  have S0 := Lib.hid (cell_below hX s0)
  have S1 := Lib.hid (cell_below hX s1)
  have G0 := Lib.hid (cell_below hX g0)
  have G1 := Lib.hid (cell_below hX g1)
  have SV12 := Lib.hid ((SV10.out.below hB12).below hX)
  have ST12 := Lib.hid ((ST10.out.below hB12).below hX)
  have HV12 := Lib.hid (hHV.below hX)
  have HT12 := Lib.hid (hHT.below hX)
  have MK12 := Lib.hid ((MK10.out.below hB12).below hX)
  have HB12' := HB10.out.trans (hB12.mono HB10.out.size)
  have HB12 := Lib.hid (HB12'.trans (hX.mono HB12'.size))
  have lv0 := fun (o : Obj) => cell_alloc (o := o) s0
  have lv1 := fun (o : Obj) => cell_alloc (o := o) s1
  clear hB12 hHV hHT HB12' hX
  go_wp2_with fail
  clear lv0 lv1 hls s0 s1 g0 g1
  generalize (w12.alloc (.cells #[.slice ha rcs.length hc, .slice ha' rts.length hc'] 32)) = W12 at *
  have g0 := G0.out
  have g1 := G1.out
  refine (laws_eqMesh _ _ _ _ _ _ _ _ _ _ rcs rts _ HV12.out HT12.out SV12.out ST12.out).mono ?_
  rintro e w13 ⟨rfl, hB13⟩
  replace g0 := cell_below hB13 g0
  replace g1 := cell_below hB13 g1
  have MK13 := Lib.hid (MK12.out.below hB13)
  have HB13 := Lib.hid (HB12.out.trans (hB13.mono HB12.out.size))
  clear hB13
  go_wp2_with fail
  refine (HHG.out w13 MK13.out).mono ?_
  rintro e w14 ⟨rfl, hB14⟩
  have HB14 := Lib.hid (HB13.out.trans (hB14.mono HB13.out.size))
  clear hB14
  go_wp2
  go_ret
  exact ⟨rfl, HB14.out⟩
end Go.Proofs.Ytljpjmkickkcpab

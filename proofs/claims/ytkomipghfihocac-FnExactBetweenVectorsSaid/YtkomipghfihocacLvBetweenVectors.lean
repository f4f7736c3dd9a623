
/-
The laws of vectors return true: their walks. Conditions: none beyond that the words fit.
-/
import Derived.Test.YtkomipghfihocacVec
import Derived.Test.YtkomipghfihocacVecB
import Derived.Test.YtkomipghfihocacInn
import Derived.Test.YtkomipghfihocacBet

import Derived.Deep.DeepCutAuto
namespace Go.Proofs.Ytkomipghfihocac
open Go Fk Go.RowKit
set_option linter.unusedVariables false

set_option maxHeartbeats 1000000 in
theorem FnExactBetweenVectors_law (x0 y0 z0 : Nat) (x1 y1 z1 : Nat) (x2 : Nat) (w : World) (v0 : x0 < 2 ^ FloatKind.f32.format.width ∧ y0 < 2 ^ FloatKind.f32.format.width ∧ z0 < 2 ^ FloatKind.f32.format.width) (v1 : x1 < 2 ^ FloatKind.f32.format.width ∧ y1 < 2 ^ FloatKind.f32.format.width ∧ z1 < 2 ^ FloatKind.f32.format.width) (v2 : x2 < 2 ^ FloatKind.f32.format.width) :
    Calls Try.prog 9 #[vv x0 y0 z0, vv x1 y1 z1, .float .f32 x2] w fun e w' => e = .returned (.bool true) ∧ Below w.heap.size w w' := by
  obtain ⟨a0, b0, g0⟩ := v0
  have hx0 := FV.self a0
  have hy0 := FV.self b0
  have hz0 := FV.self g0
  obtain ⟨a1, b1, g1⟩ := v1
  have hx1 := FV.self a1
  have hy1 := FV.self b1
  have hz1 := FV.self g1
  have hx2 := FV.self v2
  have u := Try.underlying22
  have u' := Try.underlying34
  have uv := Try.underlying25
  have ul := Try.underlying24
  go_enter Try.func9, Try.ntmps9
  go_upto_region 1 with fail
  generalize hw0 : (w.alloc (.cells #[.float .f32 x0, .float .f32 y0, .float .f32 z0] 24)).alloc (.cells #[.float .f32 x1, .float .f32 y1, .float .f32 z1] 24) = w0
  have c0 : w0.cell? ⟨w.heap.size, 0, none⟩ = some (.float .f32 x0) := by rw [← hw0]; simp
  have c1 : w0.cell? ⟨w.heap.size, 1, none⟩ = some (.float .f32 y0) := by rw [← hw0]; simp
  have c2 : w0.cell? ⟨w.heap.size, 2, none⟩ = some (.float .f32 z0) := by rw [← hw0]; simp
  have c3 : w0.cell? ⟨w.heap.size + 1, 0, none⟩ = some (.float .f32 x1) := by rw [← hw0]; simp
  have c4 : w0.cell? ⟨w.heap.size + 1, 1, none⟩ = some (.float .f32 y1) := by rw [← hw0]; simp
  have c5 : w0.cell? ⟨w.heap.size + 1, 2, none⟩ = some (.float .f32 z1) := by rw [← hw0]; simp
  have hs0 : w.heap.size + 2 ≤ w0.heap.size := by rw [← hw0]; simp
  have hB0 : Below w.heap.size w w0 := by rw [← hw0]; exact ((Below.refl _ _).alloc (Nat.le_refl _) _).alloc (by simp) _
  clear hw0
  go_cut [7] (fun s wx => ∃ n a b g, s = .pointer (some ⟨n, 0, none⟩) ∧ wx.cell? ⟨n, 0, none⟩ = some (.float .f32 a) ∧ wx.cell? ⟨n, 1, none⟩ = some (.float .f32 b) ∧ wx.cell? ⟨n, 2, none⟩ = some (.float .f32 g) ∧ FV .f32 a (fop .add .f32 (cls .f32 x0) (fop .mul .f32 (fop .sub .f32 (cls .f32 x1) (cls .f32 x0)) (cls .f32 x2))) ∧ FV .f32 b (fop .add .f32 (cls .f32 y0) (fop .mul .f32 (fop .sub .f32 (cls .f32 y1) (cls .f32 y0)) (cls .f32 x2))) ∧ FV .f32 g (fop .add .f32 (cls .f32 z0) (fop .mul .f32 (fop .sub .f32 (cls .f32 z1) (cls .f32 z0)) (cls .f32 x2))) ∧ Below w0.heap.size w0 wx)
  case first =>
    go_region_held3 (fun w' => w'.cell? ⟨w.heap.size, 0, none⟩ = some (.float .f32 x0) ∧ w'.cell? ⟨w.heap.size, 1, none⟩ = some (.float .f32 y0) ∧ w'.cell? ⟨w.heap.size, 2, none⟩ = some (.float .f32 z0) ∧ w'.cell? ⟨w.heap.size + 1, 0, none⟩ = some (.float .f32 x1) ∧ w'.cell? ⟨w.heap.size + 1, 1, none⟩ = some (.float .f32 y1) ∧ w'.cell? ⟨w.heap.size + 1, 2, none⟩ = some (.float .f32 z1))
      ((exact ⟨by (repeat (first | with_reducible exact c0 | with_reducible refine cell_drew ?_ | with_reducible refine cell_drewN ?_ | with_reducible refine cell_alloc ?_ | (with_reducible refine cell_set ?_ ?_; focus (first | omega | (simp <;> omega))) | with_reducible refine cell_below hB1 ?_)), by (repeat (first | with_reducible exact c1 | with_reducible refine cell_drew ?_ | with_reducible refine cell_drewN ?_ | with_reducible refine cell_alloc ?_ | (with_reducible refine cell_set ?_ ?_; focus (first | omega | (simp <;> omega))) | with_reducible refine cell_below hB1 ?_)), by (repeat (first | with_reducible exact c2 | with_reducible refine cell_drew ?_ | with_reducible refine cell_drewN ?_ | with_reducible refine cell_alloc ?_ | (with_reducible refine cell_set ?_ ?_; focus (first | omega | (simp <;> omega))) | with_reducible refine cell_below hB1 ?_)), by (repeat (first | with_reducible exact c3 | with_reducible refine cell_drew ?_ | with_reducible refine cell_drewN ?_ | with_reducible refine cell_alloc ?_ | (with_reducible refine cell_set ?_ ?_; focus (first | omega | (simp <;> omega))) | with_reducible refine cell_below hB1 ?_)), by (repeat (first | with_reducible exact c4 | with_reducible refine cell_drew ?_ | with_reducible refine cell_drewN ?_ | with_reducible refine cell_alloc ?_ | (with_reducible refine cell_set ?_ ?_; focus (first | omega | (simp <;> omega))) | with_reducible refine cell_below hB1 ?_)), by (repeat (first | with_reducible exact c5 | with_reducible refine cell_drew ?_ | with_reducible refine cell_drewN ?_ | with_reducible refine cell_alloc ?_ | (with_reducible refine cell_set ?_ ?_; focus (first | omega | (simp <;> omega))) | with_reducible refine cell_below hB1 ?_))⟩))
      (first
        | (go_at_call 12; refine (laws_toVector _ _ _ _).mono ?_; rintro en w1 ⟨rfl, hb1⟩; (obtain hB1 : Below w0.heap.size w0 w1 := by (refine below_call ?_ (Nat.le_refl _) hb1; (repeat (first | with_reducible exact hB1 | with_reducible exact Below.refl _ _ | with_reducible refine Below.drew ?_ | with_reducible refine below_drewN ?_ _ | with_reducible refine below_new ?_ (Nat.le_refl _) | (with_reducible refine below_set3 ?_ ?_; (rotate_left; focus (first | omega | (simp <;> omega)))))); done)); obtain ⟨hc1, hf1⟩ := bcell hb1; have hq1 := hb1.size; (try simp at hq1); (try rw [Nat.add_one_le_iff] at hq1); (first | (refine (fun (hq2 : w0.heap.size < w1.heap.size) => ?_) ?_; (rotate_left; focus omega)) | skip); (first | (refine (fun (q0 : w1.cell? ⟨w0.heap.size, 0, none⟩ = some (.float .f32 0)) => ?_) (cell_below hb1 ?_); (rotate_left; focus (first | exact q0 | (simp; done)))) | skip); (first | (refine (fun (q1 : w1.cell? ⟨w0.heap.size, 1, none⟩ = some (.float .f32 0)) => ?_) (cell_below hb1 ?_); (rotate_left; focus (first | exact q1 | (simp; done)))) | skip); (first | (refine (fun (q2 : w1.cell? ⟨w0.heap.size, 2, none⟩ = some (.float .f32 0)) => ?_) (cell_below hb1 ?_); (rotate_left; focus (first | exact q2 | (simp; done)))) | skip); (first | (refine (fun (f0 : w1.frozen? ⟨w0.heap.size, 0, none⟩ = false) => ?_) (frozen_below hb1 ?_ ?_); (rotate_left; focus (simp <;> omega); focus (first | exact f0 | (simp; done)))) | skip); (first | (refine (fun (f1 : w1.frozen? ⟨w0.heap.size, 1, none⟩ = false) => ?_) (frozen_below hb1 ?_ ?_); (rotate_left; focus (simp <;> omega); focus (first | exact f1 | (simp; done)))) | skip); (first | (refine (fun (f2 : w1.frozen? ⟨w0.heap.size, 2, none⟩ = false) => ?_) (frozen_below hb1 ?_ ?_); (rotate_left; focus (simp <;> omega); focus (first | exact f2 | (simp; done)))) | skip))
        | (go_at_call 26; refine (spec_BetweenVectors _ _ _ _ _ _ _ _ _ _ _ _ _ _ _ hx0 hy0 hz0 hx1 hy1 hz1 hx2).mono ?_; rintro en w1 ⟨a, b, g, rfl, ha, hb, hg, hb1⟩; (obtain hB1 : Below w0.heap.size w0 w1 := by (refine below_call ?_ (Nat.le_refl _) hb1; (repeat (first | with_reducible exact hB1 | with_reducible exact Below.refl _ _ | with_reducible refine Below.drew ?_ | with_reducible refine below_drewN ?_ _ | with_reducible refine below_new ?_ (Nat.le_refl _) | (with_reducible refine below_set3 ?_ ?_; (rotate_left; focus (first | omega | (simp <;> omega)))))); done)); obtain ⟨hc1, hf1⟩ := bcell hb1; have hq1 := hb1.size; (try simp at hq1); (try rw [Nat.add_one_le_iff] at hq1); (first | (refine (fun (hq2 : w0.heap.size < w1.heap.size) => ?_) ?_; (rotate_left; focus omega)) | skip); (first | (refine (fun (q0 : w1.cell? ⟨w0.heap.size, 0, none⟩ = some (.float .f32 0)) => ?_) (cell_below hb1 ?_); (rotate_left; focus (first | exact q0 | (simp; done)))) | skip); (first | (refine (fun (q1 : w1.cell? ⟨w0.heap.size, 1, none⟩ = some (.float .f32 0)) => ?_) (cell_below hb1 ?_); (rotate_left; focus (first | exact q1 | (simp; done)))) | skip); (first | (refine (fun (q2 : w1.cell? ⟨w0.heap.size, 2, none⟩ = some (.float .f32 0)) => ?_) (cell_below hb1 ?_); (rotate_left; focus (first | exact q2 | (simp; done)))) | skip); (first | (refine (fun (f0 : w1.frozen? ⟨w0.heap.size, 0, none⟩ = false) => ?_) (frozen_below hb1 ?_ ?_); (rotate_left; focus (simp <;> omega); focus (first | exact f0 | (simp; done)))) | skip); (first | (refine (fun (f1 : w1.frozen? ⟨w0.heap.size, 1, none⟩ = false) => ?_) (frozen_below hb1 ?_ ?_); (rotate_left; focus (simp <;> omega); focus (first | exact f1 | (simp; done)))) | skip); (first | (refine (fun (f2 : w1.frozen? ⟨w0.heap.size, 2, none⟩ = false) => ?_) (frozen_below hb1 ?_ ?_); (rotate_left; focus (simp <;> omega); focus (first | exact f2 | (simp; done)))) | skip)))
    all_goals
      go_wp2_with fail
      go_meet
      refine ⟨_, a, b, g, rfl, ?_, ?_, ?_, ha, hb, hg, by (repeat (first | with_reducible exact hB1 | with_reducible exact Below.refl _ _ | with_reducible refine Below.drew ?_ | with_reducible refine below_drewN ?_ _ | with_reducible refine below_new ?_ (Nat.le_refl _) | (with_reducible refine below_set3 ?_ ?_; (rotate_left; focus (first | omega | (simp <;> omega))))))⟩
      · first | (simp; done) | exact (set3 (u0 := .float .f32 0) (v0 := .float .f32 0) (t0 := .float .f32 0) (by go_simp) (by go_simp) (by go_simp)).1
      · first | (simp; done) | exact (set3 (u0 := .float .f32 0) (v0 := .float .f32 0) (t0 := .float .f32 0) (by go_simp) (by go_simp) (by go_simp)).2.1
      · first | (simp; done) | exact (set3 (u0 := .float .f32 0) (v0 := .float .f32 0) (t0 := .float .f32 0) (by go_simp) (by go_simp) (by go_simp)).2.2
  case rest =>
  obtain ⟨n, a, b, g, rfl, r0, r1, r2, ha, hb, hg, hB1⟩ := hcut
  go_upto_region 2 with fail
  have hs2 := hB1.size
  have e0 := cell_below hB1 c0
  have e1 := cell_below hB1 c1
  have e2 := cell_below hB1 c2
  have e3 := cell_below hB1 c3
  have e4 := cell_below hB1 c4
  have e5 := cell_below hB1 c5
  have hBa := hB0.trans (hB1.mono (by omega))
  clear hB1
  go_cut [8] (fun s wx => ∃ n a b g, s = .pointer (some ⟨n, 0, none⟩) ∧ wx.cell? ⟨n, 0, none⟩ = some (.float .f32 a) ∧ wx.cell? ⟨n, 1, none⟩ = some (.float .f32 b) ∧ wx.cell? ⟨n, 2, none⟩ = some (.float .f32 g) ∧ FV .f32 a (fop .add .f32 (cls .f32 x0) (fop .mul .f32 (fop .sub .f32 (cls .f32 x1) (cls .f32 x0)) (cls .f32 x2))) ∧ FV .f32 b (fop .add .f32 (cls .f32 y0) (fop .mul .f32 (fop .sub .f32 (cls .f32 y1) (cls .f32 y0)) (cls .f32 x2))) ∧ FV .f32 g (fop .add .f32 (cls .f32 z0) (fop .mul .f32 (fop .sub .f32 (cls .f32 z1) (cls .f32 z0)) (cls .f32 x2))) ∧ Below wc.heap.size wc wx)
  case first =>
    go_region_held3 (fun w' => w'.cell? ⟨w.heap.size, 0, none⟩ = some (.float .f32 x0) ∧ w'.cell? ⟨w.heap.size, 1, none⟩ = some (.float .f32 y0) ∧ w'.cell? ⟨w.heap.size, 2, none⟩ = some (.float .f32 z0) ∧ w'.cell? ⟨w.heap.size + 1, 0, none⟩ = some (.float .f32 x1) ∧ w'.cell? ⟨w.heap.size + 1, 1, none⟩ = some (.float .f32 y1) ∧ w'.cell? ⟨w.heap.size + 1, 2, none⟩ = some (.float .f32 z1))
      ((exact ⟨by (repeat (first | with_reducible exact e0 | with_reducible refine cell_drew ?_ | with_reducible refine cell_drewN ?_ | with_reducible refine cell_alloc ?_ | (with_reducible refine cell_set ?_ ?_; focus (first | omega | (simp <;> omega))) | with_reducible refine cell_below hB1 ?_)), by (repeat (first | with_reducible exact e1 | with_reducible refine cell_drew ?_ | with_reducible refine cell_drewN ?_ | with_reducible refine cell_alloc ?_ | (with_reducible refine cell_set ?_ ?_; focus (first | omega | (simp <;> omega))) | with_reducible refine cell_below hB1 ?_)), by (repeat (first | with_reducible exact e2 | with_reducible refine cell_drew ?_ | with_reducible refine cell_drewN ?_ | with_reducible refine cell_alloc ?_ | (with_reducible refine cell_set ?_ ?_; focus (first | omega | (simp <;> omega))) | with_reducible refine cell_below hB1 ?_)), by (repeat (first | with_reducible exact e3 | with_reducible refine cell_drew ?_ | with_reducible refine cell_drewN ?_ | with_reducible refine cell_alloc ?_ | (with_reducible refine cell_set ?_ ?_; focus (first | omega | (simp <;> omega))) | with_reducible refine cell_below hB1 ?_)), by (repeat (first | with_reducible exact e4 | with_reducible refine cell_drew ?_ | with_reducible refine cell_drewN ?_ | with_reducible refine cell_alloc ?_ | (with_reducible refine cell_set ?_ ?_; focus (first | omega | (simp <;> omega))) | with_reducible refine cell_below hB1 ?_)), by (repeat (first | with_reducible exact e5 | with_reducible refine cell_drew ?_ | with_reducible refine cell_drewN ?_ | with_reducible refine cell_alloc ?_ | (with_reducible refine cell_set ?_ ?_; focus (first | omega | (simp <;> omega))) | with_reducible refine cell_below hB1 ?_))⟩))
      (first
        | (go_at_call 12; refine (laws_toVector _ _ _ _).mono ?_; rintro en w1 ⟨rfl, hb1⟩; (obtain hB1 : Below wc.heap.size wc w1 := by (refine below_call ?_ (Nat.le_refl _) hb1; (repeat (first | with_reducible exact hB1 | with_reducible exact Below.refl _ _ | with_reducible refine Below.drew ?_ | with_reducible refine below_drewN ?_ _ | with_reducible refine below_new ?_ (Nat.le_refl _) | (with_reducible refine below_set3 ?_ ?_; (rotate_left; focus (first | omega | (simp <;> omega)))))); done)); obtain ⟨hc1, hf1⟩ := bcell hb1; have hq1 := hb1.size; (try simp at hq1); (try rw [Nat.add_one_le_iff] at hq1); (first | (refine (fun (hq2 : wc.heap.size < w1.heap.size) => ?_) ?_; (rotate_left; focus omega)) | skip); (first | (refine (fun (q0 : w1.cell? ⟨wc.heap.size, 0, none⟩ = some (.float .f32 0)) => ?_) (cell_below hb1 ?_); (rotate_left; focus (first | exact q0 | (simp; done)))) | skip); (first | (refine (fun (q1 : w1.cell? ⟨wc.heap.size, 1, none⟩ = some (.float .f32 0)) => ?_) (cell_below hb1 ?_); (rotate_left; focus (first | exact q1 | (simp; done)))) | skip); (first | (refine (fun (q2 : w1.cell? ⟨wc.heap.size, 2, none⟩ = some (.float .f32 0)) => ?_) (cell_below hb1 ?_); (rotate_left; focus (first | exact q2 | (simp; done)))) | skip); (first | (refine (fun (f0 : w1.frozen? ⟨wc.heap.size, 0, none⟩ = false) => ?_) (frozen_below hb1 ?_ ?_); (rotate_left; focus (simp <;> omega); focus (first | exact f0 | (simp; done)))) | skip); (first | (refine (fun (f1 : w1.frozen? ⟨wc.heap.size, 1, none⟩ = false) => ?_) (frozen_below hb1 ?_ ?_); (rotate_left; focus (simp <;> omega); focus (first | exact f1 | (simp; done)))) | skip); (first | (refine (fun (f2 : w1.frozen? ⟨wc.heap.size, 2, none⟩ = false) => ?_) (frozen_below hb1 ?_ ?_); (rotate_left; focus (simp <;> omega); focus (first | exact f2 | (simp; done)))) | skip))
        | (go_at_call 27; refine (impl_BetweenVectors _ _ _ _ _ _ _ _ _ _ _ _ _ _ _ hx0 hy0 hz0 hx1 hy1 hz1 hx2).mono ?_; rintro en w1 ⟨a, b, g, rfl, ha, hb, hg, hb1⟩; (obtain hB1 : Below wc.heap.size wc w1 := by (refine below_call ?_ (Nat.le_refl _) hb1; (repeat (first | with_reducible exact hB1 | with_reducible exact Below.refl _ _ | with_reducible refine Below.drew ?_ | with_reducible refine below_drewN ?_ _ | with_reducible refine below_new ?_ (Nat.le_refl _) | (with_reducible refine below_set3 ?_ ?_; (rotate_left; focus (first | omega | (simp <;> omega)))))); done)); obtain ⟨hc1, hf1⟩ := bcell hb1; have hq1 := hb1.size; (try simp at hq1); (try rw [Nat.add_one_le_iff] at hq1); (first | (refine (fun (hq2 : wc.heap.size < w1.heap.size) => ?_) ?_; (rotate_left; focus omega)) | skip); (first | (refine (fun (q0 : w1.cell? ⟨wc.heap.size, 0, none⟩ = some (.float .f32 0)) => ?_) (cell_below hb1 ?_); (rotate_left; focus (first | exact q0 | (simp; done)))) | skip); (first | (refine (fun (q1 : w1.cell? ⟨wc.heap.size, 1, none⟩ = some (.float .f32 0)) => ?_) (cell_below hb1 ?_); (rotate_left; focus (first | exact q1 | (simp; done)))) | skip); (first | (refine (fun (q2 : w1.cell? ⟨wc.heap.size, 2, none⟩ = some (.float .f32 0)) => ?_) (cell_below hb1 ?_); (rotate_left; focus (first | exact q2 | (simp; done)))) | skip); (first | (refine (fun (f0 : w1.frozen? ⟨wc.heap.size, 0, none⟩ = false) => ?_) (frozen_below hb1 ?_ ?_); (rotate_left; focus (simp <;> omega); focus (first | exact f0 | (simp; done)))) | skip); (first | (refine (fun (f1 : w1.frozen? ⟨wc.heap.size, 1, none⟩ = false) => ?_) (frozen_below hb1 ?_ ?_); (rotate_left; focus (simp <;> omega); focus (first | exact f1 | (simp; done)))) | skip); (first | (refine (fun (f2 : w1.frozen? ⟨wc.heap.size, 2, none⟩ = false) => ?_) (frozen_below hb1 ?_ ?_); (rotate_left; focus (simp <;> omega); focus (first | exact f2 | (simp; done)))) | skip)))
    all_goals
      go_wp2_with fail
      go_meet
      refine ⟨_, a, b, g, rfl, ?_, ?_, ?_, ha, hb, hg, by (repeat (first | with_reducible exact hB1 | with_reducible exact Below.refl _ _ | with_reducible refine Below.drew ?_ | with_reducible refine below_drewN ?_ _ | with_reducible refine below_new ?_ (Nat.le_refl _) | (with_reducible refine below_set3 ?_ ?_; (rotate_left; focus (first | omega | (simp <;> omega))))))⟩
      · first | (simp; done) | exact (set3 (u0 := .float .f32 0) (v0 := .float .f32 0) (t0 := .float .f32 0) (by go_simp) (by go_simp) (by go_simp)).1
      · first | (simp; done) | exact (set3 (u0 := .float .f32 0) (v0 := .float .f32 0) (t0 := .float .f32 0) (by go_simp) (by go_simp) (by go_simp)).2.1
      · first | (simp; done) | exact (set3 (u0 := .float .f32 0) (v0 := .float .f32 0) (t0 := .float .f32 0) (by go_simp) (by go_simp) (by go_simp)).2.2
  case rest =>
  obtain ⟨n', a', b', g', rfl, s0, s1, s2, ha', hb', hg', hB2⟩ := hcut
  have t0 := cell_below hB2 r0
  have t1 := cell_below hB2 r1
  have t2 := cell_below hB2 r2
  have hBb := hBa.trans (hB2.mono (by omega))
  clear hB2 r0 r1 r2
  go_wp2_with (go_at_call 14; refine (laws_eqVector _ _ _ _ _ _ _ _ _ _ ha' hb' hg' ha hb hg).mono ?_; rintro en w3 ⟨rfl, hb3⟩)
  go_ret
  exact ⟨rfl, hBb.trans (hb3.mono hBb.size)⟩
end Go.Proofs.Ytkomipghfihocac

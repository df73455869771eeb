/-
  CONTRACTS of amounts: the chapter's examples.
-/
import Derived.Test.YtompkkanckejjaaDoorM11
import Derived.Test.YtompkkanckejjaaDoorM12
namespace Go.Proofs.YtompkkanckejjaaDoor
open Go.RowKit
set_option linter.unusedVariables false
set_option linter.unusedSimpArgs false
set_option maxRecDepth 8000 in
set_option maxHeartbeats 3200000 in
theorem world_var {P : World → Prop} {W : World} (S : World → Prop) (hS : S W) (h : ∀ V, S V → P V) : P W := h W hS
set_option maxHeartbeats 1000000 in
theorem usd_any (n : Int) (w : World) : Calls Tryd.prog 24 #[.int .i64 n] w fun x w' => x = .returned (.agg #[.int .i64 n, .string ⟨#[85, 83, 68]⟩]) ∧ Pushed w w' := by
  go_enter Tryd.func24, Tryd.ntmps24
  go_wp2
  exact bodyPost_ret (v := .agg #[.int .i64 n, .string ⟨#[85, 83, 68]⟩]) (by simp [results, Tryd.results24, go_sem]) rfl ⟨rfl, (by repeat (first | with_reducible exact Pushed.refl _ | with_reducible assumption | with_reducible refine Pushed.push ?_ _ | with_reducible refine Pushed.alloc ?_ _ | with_reducible refine Pushed.drewN ?_ _ | with_reducible refine Pushed.drew ?_))⟩
theorem x_scale1 (w : World) : Calls Tryd.prog 19 #[.agg #[.int .i64 1001, .string ⟨#[85, 83, 68]⟩], .int .i64 1, .int .i64 2, .int .i64 3] w fun x w' => x = .returned (.tuple #[.agg #[.int .i64 501, .string ⟨#[85, 83, 68]⟩], .int .i64 0]) ∧ Pushed w w' :=
  scale_val 1001 ⟨#[85, 83, 68]⟩ 1 2 3 (by decide) (by decide) (by decide) (by decide) (by decide) (by decide) (by decide) (by decide) 500 1 (by decide) (by decide) true false (by decide) (by decide) (by decide) (by decide) 501 (by decide) w
theorem x_scale2 (w : World) : Calls Tryd.prog 19 #[.agg #[.int .i64 1001, .string ⟨#[85, 83, 68]⟩], .int .i64 1, .int .i64 2, .int .i64 4] w fun x w' => x = .returned (.tuple #[.agg #[.int .i64 500, .string ⟨#[85, 83, 68]⟩], .int .i64 0]) ∧ Pushed w w' :=
  scale_val 1001 ⟨#[85, 83, 68]⟩ 1 2 4 (by decide) (by decide) (by decide) (by decide) (by decide) (by decide) (by decide) (by decide) 500 1 (by decide) (by decide) false false (by decide) (by decide) (by decide) (by decide) 500 (by decide) w
theorem x_scale3 (w : World) : Calls Tryd.prog 19 #[.agg #[.int .i64 (-1001), .string ⟨#[85, 83, 68]⟩], .int .i64 1, .int .i64 2, .int .i64 1] w fun x w' => x = .returned (.tuple #[.agg #[.int .i64 (-500), .string ⟨#[85, 83, 68]⟩], .int .i64 0]) ∧ Pushed w w' :=
  scale_val (-1001) ⟨#[85, 83, 68]⟩ 1 2 1 (by decide) (by decide) (by decide) (by decide) (by decide) (by decide) (by decide) (by decide) 500 1 (by decide) (by decide) false true (by decide) (by decide) (by decide) (by decide) (-500) (by decide) w
theorem x_add (w : World) : Calls Tryd.prog 10 #[.agg #[.int .i64 1, .string ⟨#[85, 83, 68]⟩], .agg #[.int .i64 0, .string ⟨#[69, 85, 82]⟩]] w fun x w' => x = .returned (.tuple #[.agg #[.int .i64 0, .string ⟨#[]⟩], .int .i64 11]) ∧ Pushed w w' :=
  add_e 1 ⟨#[85, 83, 68]⟩ 0 ⟨#[69, 85, 82]⟩ (by decide) (by decide) (Lib.hid (show pairR 1 ⟨#[85, 83, 68]⟩ 0 ⟨#[69, 85, 82]⟩ = 11 by decide)) rfl w
set_option maxRecDepth 8000 in
set_option maxHeartbeats 3200000 in
theorem same3 (r q : Nat) (w : World) (hr : R3 w r) (hq : R3 w q) : Calls Tryd.prog 23 #[.slice (some ⟨r, 0, none⟩) 3 3, .slice (some ⟨q, 0, none⟩) 3 3] w fun x w' => x = .returned (.bool true) ∧ Pushed w w' := by
  obtain ⟨a0, a1, a2, a3, a4, a5⟩ := hr
  obtain ⟨b0, b1, b2, b3, b4, b5⟩ := hq
  go_enter Tryd.func23, Tryd.ntmps23
  go_wp2
  refine wp_loop_rounds 4 ?_
  rw [rounds_succ]
  go_wp2
  go_quiet (fail)
  go_wp2
  rw [rounds_succ]
  go_wp2
  go_quiet (fail)
  go_wp2
  rw [rounds_succ]
  go_wp2
  go_quiet (fail)
  go_wp2
  rw [rounds_succ]
  go_wp2
  go_ret
  exact ⟨rfl, (by repeat (first | with_reducible exact Pushed.refl _ | with_reducible assumption | with_reducible refine Pushed.push ?_ _ | with_reducible refine Pushed.alloc ?_ _ | with_reducible refine Pushed.drewN ?_ _ | with_reducible refine Pushed.drew ?_))⟩
theorem R3.later {w w' : World} {r B : Nat} (h : R3 w r) (hr : r < B) (hb : Below B w w') : R3 w' r := by
  obtain ⟨a0, a1, a2, a3, a4, a5⟩ := h
  refine ⟨?_, ?_, ?_, ?_, ?_, ?_⟩ <;> (rw [hb.cell hr]; assumption)
set_option maxRecDepth 8000 in
set_option maxHeartbeats 3200000 in
theorem awake_any (w : World) (hE : ExpT w) (hP : Pow w) (hw : 6 ≤ w.heap.size) : Calls Tryd.prog 18 #[] w fun x w' => x = .returned (.bool true) ∧ Below w.heap.size w w' := by
  have U0 := Lib.hid (fun n w => usd_any n w)
  have S1 := Lib.hid x_scale1
  have S2 := Lib.hid x_scale2
  have S3 := Lib.hid x_scale3
  have XA := Lib.hid x_add
  have SP := Lib.hid (fun a w ha hP => split3 a w ha hP)
  have HE := Lib.hid hE
  have HP := Lib.hid hP
  have HW := Lib.hid hw
  clear hE hP hw
  go_enter Tryd.func18, Tryd.ntmps18
  go_wp2_with fail
  with_reducible refine (U0.out _ _).mono ?_
  rintro x w1 ⟨rfl, l0, n0, rfl⟩
  go_wp2_with fail
  with_reducible refine (S1.out _).mono ?_
  rintro x w1 ⟨rfl, l1, n1, rfl⟩
  go_wp2_with fail
  with_reducible refine (U0.out _ _).mono ?_
  rintro x w1 ⟨rfl, l2, n2, rfl⟩
  go_wp2_with fail
  with_reducible refine (S2.out _).mono ?_
  rintro x w1 ⟨rfl, l3, n3, rfl⟩
  go_wp2_with fail
  with_reducible refine (U0.out _ _).mono ?_
  rintro x w1 ⟨rfl, l4, n4, rfl⟩
  go_wp2_with fail
  with_reducible refine (S3.out _).mono ?_
  rintro x w1 ⟨rfl, l5, n5, rfl⟩
  go_wp2_with fail
  with_reducible refine (U0.out _ _).mono ?_
  rintro x w1 ⟨rfl, l6, n6, rfl⟩
  go_wp2_with fail
  refine (SP.out _ _ ?_ ?_).mono ?_
  · simp [size_push]; try omega
  · refine ⟨?_, ?_, ?_⟩ <;> go_simp
  rintro x w5 ⟨r, rfl, hb, hrz, hr3⟩
  have a0 : w5.cell? ⟨w.heap.size + (l0.length + l1.length), 0, none⟩ = some (.int .i64 501) := by
    rw [hb.cell (by simp [size_push]; try omega)]; go_simp
  have a1 : w5.cell? ⟨w.heap.size + (l0.length + l1.length), 1, none⟩ = some (.string ⟨#[85, 83, 68]⟩) := by
    rw [hb.cell (by simp [size_push]; try omega)]; go_simp
  have b0 : w5.cell? ⟨w.heap.size + (l0.length + l1.length) + 1 + (l2.length + l3.length), 0, none⟩ = some (.int .i64 500) := by
    rw [hb.cell (by simp [size_push]; try omega)]; go_simp
  have b1 : w5.cell? ⟨w.heap.size + (l0.length + l1.length) + 1 + (l2.length + l3.length), 1, none⟩ = some (.string ⟨#[85, 83, 68]⟩) := by
    rw [hb.cell (by simp [size_push]; try omega)]; go_simp
  have c0 : w5.cell? ⟨w.heap.size + (l0.length + l1.length) + 1 + (l2.length + l3.length) + 1 + (l4.length + l5.length), 0, none⟩ = some (.int .i64 (-500)) := by
    rw [hb.cell (by simp [size_push]; try omega)]; go_simp
  have c1 : w5.cell? ⟨w.heap.size + (l0.length + l1.length) + 1 + (l2.length + l3.length) + 1 + (l4.length + l5.length), 1, none⟩ = some (.string ⟨#[85, 83, 68]⟩) := by
    rw [hb.cell (by simp [size_push]; try omega)]; go_simp
  have hz : w.heap.size + (l0.length + l1.length) + 1 + (l2.length + l3.length) + 1 + (l4.length + l5.length) < w5.heap.size := by have := hb.size; simp [size_push] at this; omega
  have HB := Lib.hid ((Pushed.below (w := w) (by repeat (first | with_reducible exact Pushed.refl _ | with_reducible assumption | with_reducible refine Pushed.push ?_ _ | with_reducible refine Pushed.alloc ?_ _ | with_reducible refine Pushed.drewN ?_ _ | with_reducible refine Pushed.drew ?_))).trans (hb.mono (Pushed.below (w := w) (by repeat (first | with_reducible exact Pushed.refl _ | with_reducible assumption | with_reducible refine Pushed.push ?_ _ | with_reducible refine Pushed.alloc ?_ _ | with_reducible refine Pushed.drewN ?_ _ | with_reducible refine Pushed.drew ?_))).size))
  have PA := Lib.hid (parse_a w5 (HE.out.later HB.out HW.out) (Nat.le_trans HW.out HB.out.size))
  have PB : Hid (∀ w', Below w5.heap.size w5 w' → Calls Tryd.prog 28 #[.string ⟨#[45, 48, 46, 48, 48, 32, 85, 83, 68]⟩] w' fun x w'' => x = .returned (.tuple #[.agg #[.int .i64 0, .string ⟨#[]⟩], .int .i64 2]) ∧ Pushed w' w'') := Lib.hid fun w' hb' => parse_b w' (HE.out.later (HB.out.trans (hb'.mono HB.out.size)) HW.out) (Nat.le_trans HW.out (HB.out.trans (hb'.mono HB.out.size)).size)
  obtain ⟨A, hA⟩ : ∃ A, A = w.heap.size + (l0.length + l1.length) := ⟨_, rfl⟩
  obtain ⟨B, hB⟩ : ∃ B, B = w.heap.size + (l0.length + l1.length) + 1 + (l2.length + l3.length) := ⟨_, rfl⟩
  obtain ⟨C, hC⟩ : ∃ C, C = w.heap.size + (l0.length + l1.length) + 1 + (l2.length + l3.length) + 1 + (l4.length + l5.length) := ⟨_, rfl⟩
  rw [← hC] at c0 c1 hz
  rw [← hB] at b0 b1
  rw [← hA] at a0 a1
  have hzb : B < w5.heap.size := by omega
  have hza : A < w5.heap.size := by omega
  rw [← hC, ← hB, ← hA]
  clear hA hB hC hb S1 S2 S3 SP
  go_wp2_with fail
  with_reducible refine (PA.out).mono ?_
  rintro x w1 ⟨rfl, l7, n7, rfl⟩
  have HX : Hid (w5.heap.size + l7.length = w5.heap.size + l7.length) := Lib.hid rfl
  go_wp2_with fail
  with_reducible refine (U0.out _ _).mono ?_
  rintro x w1 ⟨rfl, l8, n8, rfl⟩
  go_wp2_with fail
  with_reducible refine (XA.out _).mono ?_
  rintro x w1 ⟨rfl, l9, n9, rfl⟩
  go_wp2_with fail
  refine (PB.out _ (Pushed.below (by repeat (first | with_reducible exact Pushed.refl _ | with_reducible assumption | with_reducible refine Pushed.push ?_ _ | with_reducible refine Pushed.alloc ?_ _ | with_reducible refine Pushed.drewN ?_ _ | with_reducible refine Pushed.drew ?_)))).mono ?_
  rintro x w1 ⟨rfl, l10, n10, rfl⟩
  go_wp2_with fail
  obtain ⟨X, hX⟩ : ∃ X, X = w5.heap.size + l7.length := ⟨_, rfl⟩
  rw [← hX]
  refine world_var (P := fun V => Code.wp _ _ _ _ V) (fun V => Below w5.heap.size w5 V ∧ X < V.heap.size ∧ V.cell? ⟨A, 0, none⟩ = some (.int .i64 501) ∧ V.cell? ⟨A, 1, none⟩ = some (.string ⟨#[85, 83, 68]⟩) ∧ V.cell? ⟨B, 0, none⟩ = some (.int .i64 500) ∧ V.cell? ⟨B, 1, none⟩ = some (.string ⟨#[85, 83, 68]⟩) ∧ V.cell? ⟨C, 0, none⟩ = some (.int .i64 (-500)) ∧ V.cell? ⟨C, 1, none⟩ = some (.string ⟨#[85, 83, 68]⟩) ∧ V.cell? ⟨X, 0, none⟩ = some (.int .i64 (-1234)) ∧ V.cell? ⟨X, 1, none⟩ = some (.string ⟨#[85, 83, 68]⟩)) ⟨Pushed.below (by repeat (first | with_reducible exact Pushed.refl _ | with_reducible assumption | with_reducible refine Pushed.push ?_ _ | with_reducible refine Pushed.alloc ?_ _ | with_reducible refine Pushed.drewN ?_ _ | with_reducible refine Pushed.drew ?_)), by subst hX; simp [size_push]; try omega, ?_, ?_, ?_, ?_, ?_, ?_, ?_, ?_⟩ ?_
  · exact ((Pushed.below (w := w5) (by repeat (first | with_reducible exact Pushed.refl _ | with_reducible assumption | with_reducible refine Pushed.push ?_ _ | with_reducible refine Pushed.alloc ?_ _ | with_reducible refine Pushed.drewN ?_ _ | with_reducible refine Pushed.drew ?_))).cell (p := ⟨A, 0, none⟩) hza).trans a0
  · exact ((Pushed.below (w := w5) (by repeat (first | with_reducible exact Pushed.refl _ | with_reducible assumption | with_reducible refine Pushed.push ?_ _ | with_reducible refine Pushed.alloc ?_ _ | with_reducible refine Pushed.drewN ?_ _ | with_reducible refine Pushed.drew ?_))).cell (p := ⟨A, 1, none⟩) hza).trans a1
  · exact ((Pushed.below (w := w5) (by repeat (first | with_reducible exact Pushed.refl _ | with_reducible assumption | with_reducible refine Pushed.push ?_ _ | with_reducible refine Pushed.alloc ?_ _ | with_reducible refine Pushed.drewN ?_ _ | with_reducible refine Pushed.drew ?_))).cell (p := ⟨B, 0, none⟩) hzb).trans b0
  · exact ((Pushed.below (w := w5) (by repeat (first | with_reducible exact Pushed.refl _ | with_reducible assumption | with_reducible refine Pushed.push ?_ _ | with_reducible refine Pushed.alloc ?_ _ | with_reducible refine Pushed.drewN ?_ _ | with_reducible refine Pushed.drew ?_))).cell (p := ⟨B, 1, none⟩) hzb).trans b1
  · exact ((Pushed.below (w := w5) (by repeat (first | with_reducible exact Pushed.refl _ | with_reducible assumption | with_reducible refine Pushed.push ?_ _ | with_reducible refine Pushed.alloc ?_ _ | with_reducible refine Pushed.drewN ?_ _ | with_reducible refine Pushed.drew ?_))).cell (p := ⟨C, 0, none⟩) hz).trans c0
  · exact ((Pushed.below (w := w5) (by repeat (first | with_reducible exact Pushed.refl _ | with_reducible assumption | with_reducible refine Pushed.push ?_ _ | with_reducible refine Pushed.alloc ?_ _ | with_reducible refine Pushed.drewN ?_ _ | with_reducible refine Pushed.drew ?_))).cell (p := ⟨C, 1, none⟩) hz).trans c1
  · subst hX; go_simp
  · subst hX; go_simp
  rintro V ⟨hBV, hXV, d0, d1, d2, d3, d4, d5, d6, d7⟩
  have HBV := Lib.hid (HB.out.trans (hBV.mono HB.out.size))
  have HR := Lib.hid (hr3.later hrz hBV)
  have hrV : r < V.heap.size := Nat.lt_of_lt_of_le hrz hBV.size
  have hAV : A < V.heap.size := Nat.lt_of_lt_of_le hza hBV.size
  have hBB : B < V.heap.size := Nat.lt_of_lt_of_le hzb hBV.size
  have hCV : C < V.heap.size := Nat.lt_of_lt_of_le hz hBV.size
  have U : Hid (∀ n w', Below V.heap.size V w' → Calls Tryd.prog 24 #[.int .i64 n] w' fun x w'' => x = .returned (.agg #[.int .i64 n, .string ⟨#[85, 83, 68]⟩]) ∧ Below V.heap.size V w'') := Lib.hid fun n w' hb => (usd_any n w').mono fun x w'' h => ⟨h.1, hb.trans (h.2.below.mono hb.size)⟩
  have SM : Hid (∀ u, Below V.heap.size V u → Calls Tryd.prog 23 #[.slice (some ⟨r, 0, none⟩) 3 3, .slice (some ⟨u.heap.size, 0, none⟩) 3 3] (u.alloc (.cells #[.int .i64 34, .string ⟨#[85, 83, 68]⟩, .int .i64 33, .string ⟨#[85, 83, 68]⟩, .int .i64 33, .string ⟨#[85, 83, 68]⟩] 23)) fun x w'' => x = .returned (.bool true) ∧ Below V.heap.size V w'') := Lib.hid fun u hb => by
    have hb2 : Below V.heap.size V (u.alloc (.cells #[.int .i64 34, .string ⟨#[85, 83, 68]⟩, .int .i64 33, .string ⟨#[85, 83, 68]⟩, .int .i64 33, .string ⟨#[85, 83, 68]⟩] 23)) := bel_alloc hb _
    refine (same3 r u.heap.size _ (HR.out.later hrV hb2) ?_).mono fun x w'' h => ⟨h.1, hb2.trans (h.2.below.mono hb2.size)⟩
    refine ⟨?_, ?_, ?_, ?_, ?_, ?_⟩ <;> go_simp
  have FM : Hid (∀ w', Below V.heap.size V w' → Calls Tryd.prog 27 #[.agg #[.int .i64 5, .string ⟨#[66, 72, 68]⟩]] w' fun x w'' => x = .returned (.string ⟨#[48, 46, 48, 48, 53, 32, 66, 72, 68]⟩) ∧ Below V.heap.size V w'') := Lib.hid fun w' hb => (fmt_a w' (HE.out.later (HBV.out.trans (hb.mono HBV.out.size)) HW.out) (HP.out.later (HBV.out.trans (hb.mono HBV.out.size)) HW.out) (Nat.le_trans HW.out (HBV.out.trans (hb.mono HBV.out.size)).size)).mono fun x w'' h => ⟨h.1, hb.trans (h.2.mono hb.size)⟩
  have KS : Hid (∀ w', Below V.heap.size V w' → Below V.heap.size V w' ∧ w'.cell? ⟨A, 0, none⟩ = some (.int .i64 501) ∧ w'.cell? ⟨A, 1, none⟩ = some (.string ⟨#[85, 83, 68]⟩) ∧ w'.cell? ⟨B, 0, none⟩ = some (.int .i64 500) ∧ w'.cell? ⟨B, 1, none⟩ = some (.string ⟨#[85, 83, 68]⟩) ∧ w'.cell? ⟨C, 0, none⟩ = some (.int .i64 (-500)) ∧ w'.cell? ⟨C, 1, none⟩ = some (.string ⟨#[85, 83, 68]⟩) ∧ w'.cell? ⟨X, 0, none⟩ = some (.int .i64 (-1234)) ∧ w'.cell? ⟨X, 1, none⟩ = some (.string ⟨#[85, 83, 68]⟩)) := Lib.hid fun w' hb => ⟨hb, by rw [hb.cell hAV]; exact d0, by rw [hb.cell hAV]; exact d1, by rw [hb.cell hBB]; exact d2, by rw [hb.cell hBB]; exact d3, by rw [hb.cell hCV]; exact d4, by rw [hb.cell hCV]; exact d5, by rw [hb.cell hXV]; exact d6, by rw [hb.cell hXV]; exact d7⟩
  clear a0 a1 b0 b1 c0 c1 hz hza hzb hr3 hrz hBV hX HX PA PB U0 XA HE HP HW HR HB
  go_region_held3 (fun w' => Below V.heap.size V w' ∧ w'.cell? ⟨A, 0, none⟩ = some (.int .i64 501) ∧ w'.cell? ⟨A, 1, none⟩ = some (.string ⟨#[85, 83, 68]⟩) ∧ w'.cell? ⟨B, 0, none⟩ = some (.int .i64 500) ∧ w'.cell? ⟨B, 1, none⟩ = some (.string ⟨#[85, 83, 68]⟩) ∧ w'.cell? ⟨C, 0, none⟩ = some (.int .i64 (-500)) ∧ w'.cell? ⟨C, 1, none⟩ = some (.string ⟨#[85, 83, 68]⟩) ∧ w'.cell? ⟨X, 0, none⟩ = some (.int .i64 (-1234)) ∧ w'.cell? ⟨X, 1, none⟩ = some (.string ⟨#[85, 83, 68]⟩)) (exact KS.out _ (by repeat (first | with_reducible exact Below.refl _ _ | with_reducible assumption | with_reducible refine Below.drew ?_ | with_reducible refine bel_alloc ?_ _ | with_reducible refine bel_drewN ?_ _))) (first
    | (with_reducible refine (U.out _ _ (by repeat (first | with_reducible exact Below.refl _ _ | with_reducible assumption | with_reducible refine Below.drew ?_ | with_reducible refine bel_alloc ?_ _ | with_reducible refine bel_drewN ?_ _))).mono ?_; rintro x u1 ⟨rfl, hb1⟩)
    | (with_reducible refine (SM.out _ (by repeat (first | with_reducible exact Below.refl _ _ | with_reducible assumption | with_reducible refine Below.drew ?_ | with_reducible refine bel_alloc ?_ _ | with_reducible refine bel_drewN ?_ _))).mono ?_; rintro x u1 ⟨rfl, hb1⟩)
    | (with_reducible refine (FM.out _ (by repeat (first | with_reducible exact Below.refl _ _ | with_reducible assumption | with_reducible refine Below.drew ?_ | with_reducible refine bel_alloc ?_ _ | with_reducible refine bel_drewN ?_ _))).mono ?_; rintro x u1 ⟨rfl, hb1⟩))
  all_goals go_wp2
  all_goals go_ret
  all_goals exact ⟨rfl, HBV.out.trans (Below.mono (by repeat (first | with_reducible exact Below.refl _ _ | with_reducible assumption | with_reducible refine Below.drew ?_ | with_reducible refine bel_alloc ?_ _ | with_reducible refine bel_drewN ?_ _)) HBV.out.size)⟩
end Go.Proofs.YtompkkanckejjaaDoor

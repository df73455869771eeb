/-
  CONTRACTS of dates: Of.
-/
import Derived.Test.YtaagifggeafgnaaDoorC3
namespace Go.Proofs.YtaagifggeafgnaaDoor
open Go.RowKit Go.Lib
set_option linter.unusedVariables false
theorem ret_two {a b : Int} {x : Value} (h : a = b) : Ending.returned (.tuple #[.int .i64 a, x]) = .returned (.tuple #[.int .i64 b, x]) := by rw [h]
set_option maxRecDepth 8000 in
set_option maxHeartbeats 1600000 in
theorem of_ok (y m d : Nat) (y0 : 1970 ≤ y) (y1 : y ≤ 2243) (m0 : 1 ≤ m) (m1 : m ≤ 12) (d0 : 1 ≤ d) (d1 : d ≤ ml y m) (hb :  dnum y m d ≤ 99999) (w : World) (hM : Mth w) : Calls Tryd.prog 9 #[.int .i64 (y : Int), .int .i64 (m : Int), .int .i64 (d : Int)] w fun e w' => e = .returned (.tuple #[.int .i64 (dnum y m d : Int), .int .i64 0]) ∧ w = w' := by
  have hbd := dnum_bd y0 y1 m0 m1 d0 d1
  have HE : Hid (dnum y m d = d - 1 + bef (y - 1970) + mb y (m - 1)) := Lib.hid (by unfold dnum; omega)
  have hml := ml_bd y m
  have g1 : (1970 : Int) ≤ (y : Int) := by omega
  have g2 : (y : Int) ≤ 2243 := by omega
  have g3 : (1 : Int) ≤ (m : Int) := by omega
  have g4 : (m : Int) ≤ 12 := by omega
  have g5 : (1 : Int) ≤ (d : Int) := by omega
  have g6 : ¬ ml y m < d := by omega
  have HM := Lib.hid hM
  clear hM
  have HL : Hid (∀ w, Mth w → Calls Tryd.prog 31 #[.int .i64 (y : Int), .int .i64 (m : Int)] w fun e w' => e = .returned (.int .i64 (ml y m : Int)) ∧ w = w') := Lib.hid fun w => ml_any y m (by omega) m0 m1 w
  generalize ml y m = L at *
  generalize dnum y m d = N at *
  go_enter Tryd.func9, Tryd.ntmps9
  go_wp2_with (first | (go_at_call 31; with_reducible refine (HL.out _ HM.out).mono ?_; rintro e w' ⟨rfl, rfl⟩))
  go_loop [8, 9] (fun dd yy => ∃ i : Nat, 1970 ≤ i ∧ i ≤ y ∧ dd = .int .i64 ((d - 1 + bef (i - 1970) : Nat) : Int) ∧ yy = .int .i64 (i : Int)) (fun _ yy => y - (intOf yy).toNat)
  case atStart => exact ⟨1970, Nat.le_refl _, y0, val_int (by simp [bef]; omega), rfl⟩
  case round =>
    obtain ⟨i, hi0, hi, rfl, rfl⟩ := hrel
    have hbi := bef_ge (i - 1970)
    by_cases hlt : i < y
    · have hyl := yl_bd i
      have HS := Lib.hid (bef_step hi0)
      have HY : Hid (∀ w, Calls Tryd.prog 32 #[.int .i64 (i : Int)] w fun e w' => e = .returned (.int .i64 (yl i : Int)) ∧ w = w') := Lib.hid fun w => yl_any i (by omega) w
      generalize yl i = Y at *
      generalize bef (i - 1970) = K at *
      generalize hq : d - 1 + K = q at *
      have hqb : q ≤ 200000 := by omega
      replace hq := Lib.hid hq
      go_wp2_with (first | (go_at_call 32; with_reducible refine (HY.out _).mono ?_; rintro e w' ⟨rfl, rfl⟩))
      go_round
      case rel => exact ⟨i + 1, by omega, by omega, val_int (by rw [HS.out]; have := hq.out; omega), by go_num⟩
      case measure => simp [intOf]; omega
    · obtain rfl : i = y := by omega
      generalize hK : bef (i - 1970) = K at *
      generalize hq : d - 1 + K = q at *
      have hqb : q ≤ 200000 := by omega
      go_wp2_with fail
      go_loop [8, 10] (fun dd mm => ∃ j : Nat, 1 ≤ j ∧ j ≤ m ∧ dd = .int .i64 ((q + mb i (j - 1) : Nat) : Int) ∧ mm = .int .i64 (j : Int)) (fun _ mm => m - (intOf mm).toNat)
      case atStart => exact ⟨1, Nat.le_refl _, m0, val_int (by simp [mb]), rfl⟩
      case round =>
        obtain ⟨j, hj0, hj, rfl, rfl⟩ := hrel
        have hmj : mb i (j - 1) ≤ 366 := by have h1 := mb_mono i (show j - 1 ≤ 12 by omega); rw [mb_12] at h1; have := yl_bd i; omega
        by_cases hlt2 : j < m
        · have HS := Lib.hid (mb_step i hj0)
          have hmlj := ml_bd i j
          have HY : Hid (∀ w, Mth w → Calls Tryd.prog 31 #[.int .i64 (i : Int), .int .i64 (j : Int)] w fun e w' => e = .returned (.int .i64 (ml i j : Int)) ∧ w = w') := Lib.hid fun w => ml_any i j (by omega) hj0 (by omega) w
          generalize ml i j = Y at *
          generalize mb i (j - 1) = P at *
          generalize hq2 : q + P = q2 at *
          have hqb2 : q2 ≤ 201000 := by omega
          replace hq2 := Lib.hid hq2
          go_wp2_with (first | (go_at_call 31; with_reducible refine (HY.out _ HM.out).mono ?_; rintro e w' ⟨rfl, rfl⟩))
          go_round
          case rel => exact ⟨j + 1, by omega, by omega, val_int (by rw [Nat.add_sub_cancel, HS.out]; have := hq2.out; omega), by go_num⟩
          case measure => simp [intOf]; omega
        · obtain rfl : j = m := by omega
          generalize mb i (j - 1) = P at *
          have hN : q + P = N := by have := HE.out; omega
          replace HE := Lib.hid (show N = N from rfl)
          rw [hN]
          clear hN hmj hq hK
          go_wp2
          go_ret2
          exact ⟨rfl, rfl⟩
set_option maxRecDepth 8000 in
set_option maxHeartbeats 1600000 in
theorem of_big (y m d : Nat) (y0 : 1970 ≤ y) (y1 : y ≤ 2243) (m0 : 1 ≤ m) (m1 : m ≤ 12) (d0 : 1 ≤ d) (d1 : d ≤ ml y m) (hb : ¬ dnum y m d ≤ 99999) (w : World) (hM : Mth w) : Calls Tryd.prog 9 #[.int .i64 (y : Int), .int .i64 (m : Int), .int .i64 (d : Int)] w fun e w' => e = .returned (.tuple #[.int .i64 0, .int .i64 4]) ∧ w = w' := by
  have hbd := dnum_bd y0 y1 m0 m1 d0 d1
  have HE : Hid (dnum y m d = d - 1 + bef (y - 1970) + mb y (m - 1)) := Lib.hid (by unfold dnum; omega)
  have hml := ml_bd y m
  have g1 : (1970 : Int) ≤ (y : Int) := by omega
  have g2 : (y : Int) ≤ 2243 := by omega
  have g3 : (1 : Int) ≤ (m : Int) := by omega
  have g4 : (m : Int) ≤ 12 := by omega
  have g5 : (1 : Int) ≤ (d : Int) := by omega
  have g6 : ¬ ml y m < d := by omega
  have HM := Lib.hid hM
  clear hM
  have HL : Hid (∀ w, Mth w → Calls Tryd.prog 31 #[.int .i64 (y : Int), .int .i64 (m : Int)] w fun e w' => e = .returned (.int .i64 (ml y m : Int)) ∧ w = w') := Lib.hid fun w => ml_any y m (by omega) m0 m1 w
  generalize ml y m = L at *
  generalize dnum y m d = N at *
  go_enter Tryd.func9, Tryd.ntmps9
  go_wp2_with (first | (go_at_call 31; with_reducible refine (HL.out _ HM.out).mono ?_; rintro e w' ⟨rfl, rfl⟩))
  go_loop [8, 9] (fun dd yy => ∃ i : Nat, 1970 ≤ i ∧ i ≤ y ∧ dd = .int .i64 ((d - 1 + bef (i - 1970) : Nat) : Int) ∧ yy = .int .i64 (i : Int)) (fun _ yy => y - (intOf yy).toNat)
  case atStart => exact ⟨1970, Nat.le_refl _, y0, val_int (by simp [bef]; omega), rfl⟩
  case round =>
    obtain ⟨i, hi0, hi, rfl, rfl⟩ := hrel
    have hbi := bef_ge (i - 1970)
    by_cases hlt : i < y
    · have hyl := yl_bd i
      have HS := Lib.hid (bef_step hi0)
      have HY : Hid (∀ w, Calls Tryd.prog 32 #[.int .i64 (i : Int)] w fun e w' => e = .returned (.int .i64 (yl i : Int)) ∧ w = w') := Lib.hid fun w => yl_any i (by omega) w
      generalize yl i = Y at *
      generalize bef (i - 1970) = K at *
      generalize hq : d - 1 + K = q at *
      have hqb : q ≤ 200000 := by omega
      replace hq := Lib.hid hq
      go_wp2_with (first | (go_at_call 32; with_reducible refine (HY.out _).mono ?_; rintro e w' ⟨rfl, rfl⟩))
      go_round
      case rel => exact ⟨i + 1, by omega, by omega, val_int (by rw [HS.out]; have := hq.out; omega), by go_num⟩
      case measure => simp [intOf]; omega
    · obtain rfl : i = y := by omega
      generalize hK : bef (i - 1970) = K at *
      generalize hq : d - 1 + K = q at *
      have hqb : q ≤ 200000 := by omega
      go_wp2_with fail
      go_loop [8, 10] (fun dd mm => ∃ j : Nat, 1 ≤ j ∧ j ≤ m ∧ dd = .int .i64 ((q + mb i (j - 1) : Nat) : Int) ∧ mm = .int .i64 (j : Int)) (fun _ mm => m - (intOf mm).toNat)
      case atStart => exact ⟨1, Nat.le_refl _, m0, val_int (by simp [mb]), rfl⟩
      case round =>
        obtain ⟨j, hj0, hj, rfl, rfl⟩ := hrel
        have hmj : mb i (j - 1) ≤ 366 := by have h1 := mb_mono i (show j - 1 ≤ 12 by omega); rw [mb_12] at h1; have := yl_bd i; omega
        by_cases hlt2 : j < m
        · have HS := Lib.hid (mb_step i hj0)
          have hmlj := ml_bd i j
          have HY : Hid (∀ w, Mth w → Calls Tryd.prog 31 #[.int .i64 (i : Int), .int .i64 (j : Int)] w fun e w' => e = .returned (.int .i64 (ml i j : Int)) ∧ w = w') := Lib.hid fun w => ml_any i j (by omega) hj0 (by omega) w
          generalize ml i j = Y at *
          generalize mb i (j - 1) = P at *
          generalize hq2 : q + P = q2 at *
          have hqb2 : q2 ≤ 201000 := by omega
          replace hq2 := Lib.hid hq2
          go_wp2_with (first | (go_at_call 31; with_reducible refine (HY.out _ HM.out).mono ?_; rintro e w' ⟨rfl, rfl⟩))
          go_round
          case rel => exact ⟨j + 1, by omega, by omega, val_int (by rw [Nat.add_sub_cancel, HS.out]; have := hq2.out; omega), by go_num⟩
          case measure => simp [intOf]; omega
        · obtain rfl : j = m := by omega
          generalize mb i (j - 1) = P at *
          have hN : q + P = N := by have := HE.out; omega
          replace HE := Lib.hid (show N = N from rfl)
          rw [hN]
          clear hN hmj hq hK
          go_wp2
          go_ret2
          exact ⟨rfl, rfl⟩
set_option maxRecDepth 8000 in
set_option maxHeartbeats 1600000 in
theorem rof_ok (y m d : Nat) (y0 : 1970 ≤ y) (y1 : y ≤ 2243) (m0 : 1 ≤ m) (m1 : m ≤ 12) (d0 : 1 ≤ d) (d1 : d ≤ ml y m) (hb :  dnum y m d ≤ 99999) (w : World) : Calls Tryd.prog 10 #[.int .i64 (y : Int), .int .i64 (m : Int), .int .i64 (d : Int)] w fun e w' => e = .returned (.tuple #[.int .i64 (dnum y m d : Int), .int .i64 0]) ∧ Below w.heap.size w w' := by
  have hbd := dnum_bd y0 y1 m0 m1 d0 d1
  have HE : Hid (dnum y m d = d - 1 + bef (y - 1970) + mb y (m - 1)) := Lib.hid (by unfold dnum; omega)
  have hml := ml_bd y m
  have g1 : (1970 : Int) ≤ (y : Int) := by omega
  have g2 : (y : Int) ≤ 2243 := by omega
  have g3 : (1 : Int) ≤ (m : Int) := by omega
  have g4 : (m : Int) ≤ 12 := by omega
  have g5 : (1 : Int) ≤ (d : Int) := by omega
  have g6 : ¬ ml y m < d := by omega
  have hbi := bef_ge (y - 1970)
  have HL : Hid (∀ w, Calls Tryd.prog 33 #[.int .i64 (y : Int), .int .i64 (m : Int)] w fun e w' => e = .returned (.int .i64 (ml y m : Int)) ∧ Below w.heap.size w w') := Lib.hid fun w => days_any y m (by omega) m0 m1 w
  have HB : Hid (∀ w, Calls Tryd.prog 34 #[.int .i64 (y : Int)] w fun e w' => e = .returned (.int .i64 (bef (y - 1970) : Int)) ∧ w = w') := Lib.hid fun w => before_any y (by omega) (by omega) w
  generalize ml y m = L at *
  generalize dnum y m d = N at *
  generalize bef (y - 1970) = K at *
  go_enter Tryd.func10, Tryd.ntmps10
  go_wp2_with fail
  with_reducible refine (HL.out _).mono ?_
  rintro e w1 ⟨rfl, hb1⟩
  go_wp2_with fail
  with_reducible refine (HB.out _).mono ?_
  rintro e w2 ⟨rfl, rfl⟩
  go_wp2_with fail
  go_loopw [8, 9] (fun dd mm wr => ∃ j : Nat, 1 ≤ j ∧ j ≤ m ∧ dd = .int .i64 ((K + mb y (j - 1) : Nat) : Int) ∧ mm = .int .i64 (j : Int) ∧ Below w.heap.size w wr) (fun _ mm _ => m - (intOf mm).toNat)
  case atStart => exact ⟨1, Nat.le_refl _, m0, val_int (by simp [mb]), rfl, hb1⟩
  case round =>
    obtain ⟨j, hj0, hj, rfl, rfl, hb2⟩ := hrel
    have hmj : mb y (j - 1) ≤ 366 := by have h1 := mb_mono y (show j - 1 ≤ 12 by omega); rw [mb_12] at h1; have := yl_bd y; omega
    by_cases hlt2 : j < m
    · have HS := Lib.hid (mb_step y hj0)
      have hmlj := ml_bd y j
      have HY : Hid (∀ w, Calls Tryd.prog 33 #[.int .i64 (y : Int), .int .i64 (j : Int)] w fun e w' => e = .returned (.int .i64 (ml y j : Int)) ∧ Below w.heap.size w w') := Lib.hid fun w => days_any y j (by omega) hj0 (by omega) w
      generalize ml y j = Y at *
      generalize mb y (j - 1) = P at *
      generalize hq2 : K + P = q2 at *
      have hqb2 : q2 ≤ 201000 := by omega
      replace hq2 := Lib.hid hq2
      go_wp2_with fail
      with_reducible refine (HY.out _).mono ?_
      rintro e w3 ⟨rfl, hb3⟩
      have HB3 := Lib.hid (hb2.trans (hb3.mono hb2.size))
      clear hb1 hb2 hb3
      go_wp2
      go_round
      case rel => exact ⟨j + 1, by omega, by omega, val_int (by rw [Nat.add_sub_cancel, HS.out]; have := hq2.out; omega), by go_num, HB3.out⟩
      case measure => simp [intOf]; omega
    · obtain rfl : j = m := by omega
      generalize mb y (j - 1) = P at *
      have hN : K + P + (d - 1) = N := by have := HE.out; omega
      generalize K + P = q at *
      have hw1 : ((q : Int) + ((d : Int) - 1)) = (N : Int) := by omega
      replace HE := Lib.hid (show N = N from rfl)
      have hqb : q ≤ 200000 := by omega
      clear hN hmj hbi
      go_wp2
      go_ret2
      exact ⟨rfl, hb2⟩
set_option maxRecDepth 8000 in
set_option maxHeartbeats 1600000 in
theorem rof_big (y m d : Nat) (y0 : 1970 ≤ y) (y1 : y ≤ 2243) (m0 : 1 ≤ m) (m1 : m ≤ 12) (d0 : 1 ≤ d) (d1 : d ≤ ml y m) (hb : ¬ dnum y m d ≤ 99999) (w : World) : Calls Tryd.prog 10 #[.int .i64 (y : Int), .int .i64 (m : Int), .int .i64 (d : Int)] w fun e w' => e = .returned (.tuple #[.int .i64 0, .int .i64 4]) ∧ Below w.heap.size w w' := by
  have hbd := dnum_bd y0 y1 m0 m1 d0 d1
  have HE : Hid (dnum y m d = d - 1 + bef (y - 1970) + mb y (m - 1)) := Lib.hid (by unfold dnum; omega)
  have hml := ml_bd y m
  have g1 : (1970 : Int) ≤ (y : Int) := by omega
  have g2 : (y : Int) ≤ 2243 := by omega
  have g3 : (1 : Int) ≤ (m : Int) := by omega
  have g4 : (m : Int) ≤ 12 := by omega
  have g5 : (1 : Int) ≤ (d : Int) := by omega
  have g6 : ¬ ml y m < d := by omega
  have hbi := bef_ge (y - 1970)
  have HL : Hid (∀ w, Calls Tryd.prog 33 #[.int .i64 (y : Int), .int .i64 (m : Int)] w fun e w' => e = .returned (.int .i64 (ml y m : Int)) ∧ Below w.heap.size w w') := Lib.hid fun w => days_any y m (by omega) m0 m1 w
  have HB : Hid (∀ w, Calls Tryd.prog 34 #[.int .i64 (y : Int)] w fun e w' => e = .returned (.int .i64 (bef (y - 1970) : Int)) ∧ w = w') := Lib.hid fun w => before_any y (by omega) (by omega) w
  generalize ml y m = L at *
  generalize dnum y m d = N at *
  generalize bef (y - 1970) = K at *
  go_enter Tryd.func10, Tryd.ntmps10
  go_wp2_with fail
  with_reducible refine (HL.out _).mono ?_
  rintro e w1 ⟨rfl, hb1⟩
  go_wp2_with fail
  with_reducible refine (HB.out _).mono ?_
  rintro e w2 ⟨rfl, rfl⟩
  go_wp2_with fail
  go_loopw [8, 9] (fun dd mm wr => ∃ j : Nat, 1 ≤ j ∧ j ≤ m ∧ dd = .int .i64 ((K + mb y (j - 1) : Nat) : Int) ∧ mm = .int .i64 (j : Int) ∧ Below w.heap.size w wr) (fun _ mm _ => m - (intOf mm).toNat)
  case atStart => exact ⟨1, Nat.le_refl _, m0, val_int (by simp [mb]), rfl, hb1⟩
  case round =>
    obtain ⟨j, hj0, hj, rfl, rfl, hb2⟩ := hrel
    have hmj : mb y (j - 1) ≤ 366 := by have h1 := mb_mono y (show j - 1 ≤ 12 by omega); rw [mb_12] at h1; have := yl_bd y; omega
    by_cases hlt2 : j < m
    · have HS := Lib.hid (mb_step y hj0)
      have hmlj := ml_bd y j
      have HY : Hid (∀ w, Calls Tryd.prog 33 #[.int .i64 (y : Int), .int .i64 (j : Int)] w fun e w' => e = .returned (.int .i64 (ml y j : Int)) ∧ Below w.heap.size w w') := Lib.hid fun w => days_any y j (by omega) hj0 (by omega) w
      generalize ml y j = Y at *
      generalize mb y (j - 1) = P at *
      generalize hq2 : K + P = q2 at *
      have hqb2 : q2 ≤ 201000 := by omega
      replace hq2 := Lib.hid hq2
      go_wp2_with fail
      with_reducible refine (HY.out _).mono ?_
      rintro e w3 ⟨rfl, hb3⟩
      have HB3 := Lib.hid (hb2.trans (hb3.mono hb2.size))
      clear hb1 hb2 hb3
      go_wp2
      go_round
      case rel => exact ⟨j + 1, by omega, by omega, val_int (by rw [Nat.add_sub_cancel, HS.out]; have := hq2.out; omega), by go_num, HB3.out⟩
      case measure => simp [intOf]; omega
    · obtain rfl : j = m := by omega
      generalize mb y (j - 1) = P at *
      have hN : K + P + (d - 1) = N := by have := HE.out; omega
      generalize K + P = q at *
      have hw1 : ((q : Int) + ((d : Int) - 1)) = (N : Int) := by omega
      replace HE := Lib.hid (show N = N from rfl)
      have hqb : q ≤ 200000 := by omega
      clear hN hmj hbi
      go_wp2
      go_ret2
      exact ⟨rfl, hb2⟩
end Go.Proofs.YtaagifggeafgnaaDoor

/-
  CONTRACTS of dates: Of where there is no such date; weekdays, starts, days of times.
-/
import Derived.Test.YtaagifggeafgnaaDoorC4
namespace Go.Proofs.YtaagifggeafgnaaDoor
open Go.RowKit Go.Lib
set_option linter.unusedVariables false
/-- Year, month and day are those of a calendar. -/
def okD (y m d : Int) : Prop := 1970 ≤ y ∧ y ≤ 2243 ∧ 1 ≤ m ∧ m ≤ 12 ∧ 1 ≤ d ∧ d ≤ (ml y.toNat m.toNat : Int)
set_option maxHeartbeats 1600000 in
theorem of_bad (y m d : Int) (h : ¬ okD y m d) (w : World) (hM : Mth w) : Calls Tryd.prog 9 #[.int .i64 y, .int .i64 m, .int .i64 d] w fun e w' => e = .returned (.tuple #[.int .i64 0, .int .i64 4]) ∧ w = w' := by
  by_cases g0 : 1970 ≤ y
  case neg =>
    clear h
    clear hM
    go_enter Tryd.func9, Tryd.ntmps9
    go_wp2
    go_ret2
    exact ⟨rfl, rfl⟩
  by_cases g1 : y ≤ 2243
  case neg =>
    clear h
    clear hM
    go_enter Tryd.func9, Tryd.ntmps9
    go_wp2
    go_ret2
    exact ⟨rfl, rfl⟩
  by_cases g2 : 1 ≤ m
  case neg =>
    clear h
    clear hM
    go_enter Tryd.func9, Tryd.ntmps9
    go_wp2
    go_ret2
    exact ⟨rfl, rfl⟩
  by_cases g3 : m ≤ 12
  case neg =>
    clear h
    clear hM
    go_enter Tryd.func9, Tryd.ntmps9
    go_wp2
    go_ret2
    exact ⟨rfl, rfl⟩
  by_cases g4 : 1 ≤ d
  case neg =>
    clear h
    clear hM
    go_enter Tryd.func9, Tryd.ntmps9
    go_wp2
    go_ret2
    exact ⟨rfl, rfl⟩
  obtain ⟨y, rfl⟩ := Int.eq_ofNat_of_zero_le (show 0 ≤ y by omega)
  obtain ⟨m, rfl⟩ := Int.eq_ofNat_of_zero_le (show 0 ≤ m by omega)
  obtain ⟨d, rfl⟩ := Int.eq_ofNat_of_zero_le (show 0 ≤ d by omega)
  have hlt : ml y m < d := by
    apply Classical.byContradiction
    intro hc
    refine h ⟨g0, g1, g2, g3, g4, ?_⟩
    rw [Int.toNat_natCast, Int.toNat_natCast]
    omega
  clear h
  have hml := ml_bd y m
  have HL : Hid (Calls Tryd.prog 31 #[.int .i64 (y : Int), .int .i64 (m : Int)] w fun e w' => e = .returned (.int .i64 (ml y m : Int)) ∧ w = w') := Lib.hid (ml_any y m (by omega) (by omega) (by omega) w hM)
  clear hM
  generalize ml y m = L at *
  go_enter Tryd.func9, Tryd.ntmps9
  go_wp2_with (first | (go_at_call 31; with_reducible refine HL.out.mono ?_; rintro e w' ⟨rfl, rfl⟩))
  go_ret2
  exact ⟨rfl, rfl⟩
set_option maxHeartbeats 1600000 in
theorem rof_bad (y m d : Int) (h : ¬ okD y m d) (w : World) : Calls Tryd.prog 10 #[.int .i64 y, .int .i64 m, .int .i64 d] w fun e w' => e = .returned (.tuple #[.int .i64 0, .int .i64 4]) ∧ Below w.heap.size w w' := by
  by_cases g0 : 1970 ≤ y
  case neg =>
    clear h
    go_enter Tryd.func10, Tryd.ntmps10
    go_wp2
    go_ret2
    exact ⟨rfl, Below.refl _ _⟩
  by_cases g1 : y ≤ 2243
  case neg =>
    clear h
    go_enter Tryd.func10, Tryd.ntmps10
    go_wp2
    go_ret2
    exact ⟨rfl, Below.refl _ _⟩
  by_cases g2 : 1 ≤ m
  case neg =>
    clear h
    go_enter Tryd.func10, Tryd.ntmps10
    go_wp2
    go_ret2
    exact ⟨rfl, Below.refl _ _⟩
  by_cases g3 : m ≤ 12
  case neg =>
    clear h
    go_enter Tryd.func10, Tryd.ntmps10
    go_wp2
    go_ret2
    exact ⟨rfl, Below.refl _ _⟩
  by_cases g4 : 1 ≤ d
  case neg =>
    clear h
    go_enter Tryd.func10, Tryd.ntmps10
    go_wp2
    go_ret2
    exact ⟨rfl, Below.refl _ _⟩
  obtain ⟨y, rfl⟩ := Int.eq_ofNat_of_zero_le (show 0 ≤ y by omega)
  obtain ⟨m, rfl⟩ := Int.eq_ofNat_of_zero_le (show 0 ≤ m by omega)
  obtain ⟨d, rfl⟩ := Int.eq_ofNat_of_zero_le (show 0 ≤ d by omega)
  have hlt : ml y m < d := by
    apply Classical.byContradiction
    intro hc
    refine h ⟨g0, g1, g2, g3, g4, ?_⟩
    rw [Int.toNat_natCast, Int.toNat_natCast]
    omega
  clear h
  have hml := ml_bd y m
  have HL : Hid (∀ w, Calls Tryd.prog 33 #[.int .i64 (y : Int), .int .i64 (m : Int)] w fun e w' => e = .returned (.int .i64 (ml y m : Int)) ∧ Below w.heap.size w w') := Lib.hid fun w => days_any y m (by omega) (by omega) (by omega) w
  generalize ml y m = L at *
  go_enter Tryd.func10, Tryd.ntmps10
  go_wp2_with fail
  with_reducible refine (HL.out _).mono ?_
  rintro e w1 ⟨rfl, hb1⟩
  go_wp2
  go_ret2
  exact ⟨rfl, hb1⟩
theorem wday_no {n : Int} (h : isDt n = false) (w : World) : Calls Tryd.prog 15 #[.int .i64 n] w fun e w' => e = .returned (.int .i64 (-1)) ∧ w = w' := by
  have hD := Lib.hid h
  clear h
  go_enter Tryd.func15, Tryd.ntmps15
  go_wp2_with fail
  refine (isDate_any _ _ hD).mono ?_
  rintro e w' ⟨rfl, rfl⟩
  go_wp2
  go_ret
  exact ⟨rfl, rfl⟩
theorem wday_ok (n : Nat) (hn : n ≤ 99999) (w : World) : Calls Tryd.prog 15 #[.int .i64 (n : Int)] w fun e w' => e = .returned (.int .i64 (((n : Int) + 3) % 7)) ∧ w = w' := by
  have hD : Hid (isDt (n : Int) = true) := Lib.hid (isDt_yes (by omega) (by omega))
  go_enter Tryd.func15, Tryd.ntmps15
  go_wp2_with fail
  refine (isDate_any _ _ hD).mono ?_
  rintro e w' ⟨rfl, rfl⟩
  go_wp2
  go_ret
  exact ⟨rfl, rfl⟩
theorem rwday_no {n : Int} (h : isDt n = false) (w : World) : Calls Tryd.prog 16 #[.int .i64 n] w fun e w' => e = .returned (.int .i64 (-1)) ∧ w = w' := by
  have hD := Lib.hid h
  clear h
  go_enter Tryd.func16, Tryd.ntmps16
  go_wp2_with fail
  refine (risDate_any _ _ hD).mono ?_
  rintro e w' ⟨rfl, rfl⟩
  go_wp2
  go_ret
  exact ⟨rfl, rfl⟩
theorem rwday_ok (n : Nat) (hn : n ≤ 99999) (w : World) : Calls Tryd.prog 16 #[.int .i64 (n : Int)] w fun e w' => e = .returned (.int .i64 (((n : Int) + 3) % 7)) ∧ w = w' := by
  have hD : Hid (isDt (n : Int) = true) := Lib.hid (isDt_yes (by omega) (by omega))
  go_enter Tryd.func16, Tryd.ntmps16
  go_wp2_with fail
  refine (risDate_any _ _ hD).mono ?_
  rintro e w' ⟨rfl, rfl⟩
  go_wp2
  go_ret
  exact ⟨rfl, rfl⟩
theorem start_no {n : Int} (h : isDt n = false) (w : World) : Calls Tryd.prog 13 #[.int .i64 n] w fun e w' => e = .returned (.tuple #[.int .i64 0, .int .i64 4]) ∧ w = w' := by
  have hD := Lib.hid h
  clear h
  go_enter Tryd.func13, Tryd.ntmps13
  go_wp2_with fail
  refine (isDate_any _ _ hD).mono ?_
  rintro e w' ⟨rfl, rfl⟩
  go_wp2
  go_ret2
  exact ⟨rfl, rfl⟩
theorem start_ok (n : Nat) (hn : n ≤ 99999) (w : World) : Calls Tryd.prog 13 #[.int .i64 (n : Int)] w fun e w' => e = .returned (.tuple #[.int .i64 ((n : Int) * 86400), .int .i64 0]) ∧ w = w' := by
  have hD : Hid (isDt (n : Int) = true) := Lib.hid (isDt_yes (by omega) (by omega))
  go_enter Tryd.func13, Tryd.ntmps13
  go_wp2_with fail
  refine (isDate_any _ _ hD).mono ?_
  rintro e w' ⟨rfl, rfl⟩
  go_wp2
  go_ret2
  exact ⟨rfl, rfl⟩
theorem rstart_no {n : Int} (h : isDt n = false) (w : World) : Calls Tryd.prog 14 #[.int .i64 n] w fun e w' => e = .returned (.tuple #[.int .i64 0, .int .i64 4]) ∧ w = w' := by
  have hD := Lib.hid h
  clear h
  go_enter Tryd.func14, Tryd.ntmps14
  go_wp2_with fail
  refine (risDate_any _ _ hD).mono ?_
  rintro e w' ⟨rfl, rfl⟩
  go_wp2
  go_ret2
  exact ⟨rfl, rfl⟩
theorem rstart_ok (n : Nat) (hn : n ≤ 99999) (w : World) : Calls Tryd.prog 14 #[.int .i64 (n : Int)] w fun e w' => e = .returned (.tuple #[.int .i64 ((n : Int) * 86400), .int .i64 0]) ∧ w = w' := by
  have hD : Hid (isDt (n : Int) = true) := Lib.hid (isDt_yes (by omega) (by omega))
  go_enter Tryd.func14, Tryd.ntmps14
  go_wp2_with fail
  refine (risDate_any _ _ hD).mono ?_
  rintro e w' ⟨rfl, rfl⟩
  go_wp2
  go_ret2
  exact ⟨rfl, rfl⟩
end Go.Proofs.YtaagifggeafgnaaDoor

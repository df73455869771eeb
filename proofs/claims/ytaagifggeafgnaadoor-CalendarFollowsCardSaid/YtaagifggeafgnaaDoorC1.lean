/-
  CONTRACTS of dates: leap years, the lengths of years and months.
-/
import Derived.Test.YtaagifggeafgnaaDoorChecked
import Derived.Test.YtaagifggeafgnaaDoorCMath
import Derived.Lib.Hide
import Derived.Below
import Derived.WalkLawsBesides
import Derived.Lib.LaidTab
import Derived.Deep.QuietTactic
import Derived.BigQuiet
namespace Go.Proofs.YtaagifggeafgnaaDoor
open Go.RowKit Go.Lib
set_option linter.unusedVariables false
theorem ret_bool {a b : Bool} (h : a = b) : Ending.returned (.bool a) = .returned (.bool b) := by rw [h]
theorem ret_str {a b : ByteArray} (h : a = b) : Ending.returned (.string a) = .returned (.string b) := by rw [h]
theorem val_int {a b : Int} (h : a = b) : Value.int .i64 a = Value.int .i64 b := by rw [h]
theorem ret_int {k : IntKind} {a b : Int} (h : a = b) : Ending.returned (.int k a) = .returned (.int k b) := by rw [h]
theorem leap_any (y : Nat) (hy : y ≤ 100000) (w : World) : Calls Tryd.prog 41 #[.int .i64 (y : Int)] w fun e w' => e = .returned (.bool (leapB y)) ∧ w = w' := by
  by_cases h4 : y % 4 = 0
  · by_cases h1 : y % 100 = 0
    · by_cases h0 : y % 400 = 0
      · have HC : Hid (leapB y = true) := Lib.hid (by simp [leapB, h4, h1, h0])
        have e4 : ((y : Int) % 4 == 0) = true := by simp; omega
        have e1 : ((y : Int) % 100 != 0) = false := by simp; omega
        have e0 : ((y : Int) % 400 == 0) = true := by simp; omega
        clear h4 h1 h0
        go_enter Tryd.func41, Tryd.ntmps41
        go_wp2
        go_ret
        exact ⟨ret_bool HC.out.symm, rfl⟩
      · have HC : Hid (leapB y = false) := Lib.hid (by simp [leapB, h4, h1, h0])
        have e4 : ((y : Int) % 4 == 0) = true := by simp; omega
        have e1 : ((y : Int) % 100 != 0) = false := by simp; omega
        have e0 : ((y : Int) % 400 == 0) = false := by simp; omega
        clear h4 h1 h0
        go_enter Tryd.func41, Tryd.ntmps41
        go_wp2
        go_ret
        exact ⟨ret_bool HC.out.symm, rfl⟩
    · have HC : Hid (leapB y = true) := Lib.hid (by simp [leapB, h4, h1])
      have e4 : ((y : Int) % 4 == 0) = true := by simp; omega
      have e1 : ((y : Int) % 100 != 0) = true := by simp; omega
      clear h4 h1
      go_enter Tryd.func41, Tryd.ntmps41
      go_wp2
      go_ret
      exact ⟨ret_bool HC.out.symm, rfl⟩
  · have HC : Hid (leapB y = false) := Lib.hid (by simp [leapB, h4]; omega)
    have e4 : ((y : Int) % 4 == 0) = false := by simp; omega
    have e0 : ((y : Int) % 400 == 0) = false := by simp; omega
    clear h4
    go_enter Tryd.func41, Tryd.ntmps41
    go_wp2
    go_ret
    exact ⟨ret_bool HC.out.symm, rfl⟩
theorem rleap_any (y : Nat) (hy : y ≤ 100000) (w : World) : Calls Tryd.prog 42 #[.int .i64 (y : Int)] w fun e w' => e = .returned (.bool (leapB y)) ∧ w = w' := by
  by_cases h4 : y % 4 = 0
  · by_cases h1 : y % 100 = 0
    · by_cases h0 : y % 400 = 0
      · have HC : Hid (leapB y = true) := Lib.hid (by simp [leapB, h4, h1, h0])
        have e4 : ((y : Int) % 4 == 0) = true := by simp; omega
        have e1 : ((y : Int) % 100 != 0) = false := by simp; omega
        have e0 : ((y : Int) % 400 == 0) = true := by simp; omega
        clear h4 h1 h0
        go_enter Tryd.func42, Tryd.ntmps42
        go_wp2
        go_ret
        exact ⟨ret_bool HC.out.symm, rfl⟩
      · have HC : Hid (leapB y = false) := Lib.hid (by simp [leapB, h4, h1, h0])
        have e4 : ((y : Int) % 4 == 0) = true := by simp; omega
        have e1 : ((y : Int) % 100 != 0) = false := by simp; omega
        have e0 : ((y : Int) % 400 == 0) = false := by simp; omega
        clear h4 h1 h0
        go_enter Tryd.func42, Tryd.ntmps42
        go_wp2
        go_ret
        exact ⟨ret_bool HC.out.symm, rfl⟩
    · have HC : Hid (leapB y = true) := Lib.hid (by simp [leapB, h4, h1])
      have e4 : ((y : Int) % 4 == 0) = true := by simp; omega
      have e1 : ((y : Int) % 100 != 0) = true := by simp; omega
      clear h4 h1
      go_enter Tryd.func42, Tryd.ntmps42
      go_wp2
      go_ret
      exact ⟨ret_bool HC.out.symm, rfl⟩
  · have HC : Hid (leapB y = false) := Lib.hid (by simp [leapB, h4]; omega)
    have e4 : ((y : Int) % 4 == 0) = false := by simp; omega
    have e0 : ((y : Int) % 400 == 0) = false := by simp; omega
    clear h4
    go_enter Tryd.func42, Tryd.ntmps42
    go_wp2
    go_ret
    exact ⟨ret_bool HC.out.symm, rfl⟩
theorem yl_any (y : Nat) (hy : y ≤ 100000) (w : World) : Calls Tryd.prog 32 #[.int .i64 (y : Int)] w fun e w' => e = .returned (.int .i64 (yl y : Int)) ∧ w = w' := by
  cases hl : leapB y
  · have HC : Hid (yl y = 365) := Lib.hid (by simp [yl, hl])
    go_enter Tryd.func32, Tryd.ntmps32
    go_wp2_with fail
    refine (leap_any y hy _).mono ?_
    rintro e w' ⟨rfl, rfl⟩
    go_wp2
    go_ret
    exact ⟨ret_int (by rw [HC.out]; rfl), rfl⟩
  · have HC : Hid (yl y = 366) := Lib.hid (by simp [yl, hl])
    go_enter Tryd.func32, Tryd.ntmps32
    go_wp2_with fail
    refine (leap_any y hy _).mono ?_
    rintro e w' ⟨rfl, rfl⟩
    go_wp2
    go_ret
    exact ⟨ret_int (by rw [HC.out]; rfl), rfl⟩
def Mth (w : World) : Prop := Lib.TabIs Tryd.prog w "cardnet/calendar.monthLengths" .i64 [31, 28, 31, 30, 31, 30, 31, 31, 30, 31, 30, 31]
theorem gMth : Tryd.prog.globalNamed "cardnet/calendar.monthLengths" = some 0 := by kernel_rfl
theorem Mth.cell {w : World} (h : Mth w) (j : Nat) (hj : j < 12) : w.cell? ⟨0, j, none⟩ = some (.int .i64 ((mtab.getD j 31 : Nat) : Int)) := by
  have := Lib.TabIs.cell h gMth j (by simpa using hj)
  rw [this]
  have hh : ∀ j, j < 12 → ([31, 28, 31, 30, 31, 30, 31, 31, 30, 31, 30, 31] : List Int)[j]? = some ((mtab.getD j 31 : Nat) : Int) := by decide
  first | rfl | (have := hh j hj; simp_all)
theorem Mth.later {w w' : World} {B : Nat} (h : Mth w) (hb : Below B w w') (hB : 4 ≤ B) : Mth w' := by
  unfold Mth TabIs World.var? at *
  obtain ⟨k, hk, hk8⟩ : ∃ k, (Tryd.prog).globalNamed "cardnet/calendar.monthLengths" = some k ∧ k < 4 := ⟨_, gMth, by decide⟩
  simp only [hk, Option.bind_some] at h ⊢
  rw [hb.block k (by omega)]
  exact h
theorem ml_any (y m : Nat) (hy : y ≤ 100000) (m0 : 1 ≤ m) (m1 : m ≤ 12) (w : World) (hM : Mth w) : Calls Tryd.prog 31 #[.int .i64 (y : Int), .int .i64 (m : Int)] w fun e w' => e = .returned (.int .i64 (ml y m : Int)) ∧ w = w' := by
  by_cases h2 : m = 2
  · subst h2
    cases hl : leapB y
    · have HC : Hid (ml y 2 = 28) := Lib.hid (by simp [ml, hl, mtab])
      have hc := hM.cell 1 (by decide)
      go_enter Tryd.func31, Tryd.ntmps31
      go_wp2_with fail
      refine (leap_any y hy _).mono ?_
      rintro e w' ⟨rfl, rfl⟩
      go_wp2
      go_ret
      exact ⟨ret_int (by rw [HC.out]; rfl), rfl⟩
    · have HC : Hid (ml y 2 = 29) := Lib.hid (by simp [ml, hl])
      go_enter Tryd.func31, Tryd.ntmps31
      go_wp2_with fail
      refine (leap_any y hy _).mono ?_
      rintro e w' ⟨rfl, rfl⟩
      go_wp2
      go_ret
      exact ⟨ret_int (by rw [HC.out]; rfl), rfl⟩
  · obtain ⟨j, rfl⟩ : ∃ j, m = j + 1 := ⟨m - 1, by omega⟩
    have HC : Hid (ml y (j + 1) = mtab.getD j 31) := Lib.hid (by rw [ml, if_neg (fun h => h2 h.1)]; rfl)
    have hc := hM.cell j (by omega)
    have e2 : (((j + 1 : Nat) : Int) == 2) = false := by simp; omega
    generalize mtab.getD j 31 = v at *
    go_enter Tryd.func31, Tryd.ntmps31
    go_wp2
    go_ret
    exact ⟨ret_int (by rw [HC.out]), rfl⟩
def isDt (d : Int) : Bool := decide (0 ≤ d ∧ d ≤ 99999)
theorem isDt_yes {d : Int} (h0 : 0 ≤ d) (h1 : d ≤ 99999) : isDt d = true := decide_eq_true ⟨h0, h1⟩
theorem isDt_no {d : Int} (h : ¬ (0 ≤ d ∧ d ≤ 99999)) : isDt d = false := decide_eq_false h
theorem isDate_any (d : Int) (w : World) {b : Bool} (HB : Hid (isDt d = b)) : Calls Tryd.prog 35 #[.int .i64 d] w fun e w' => e = .returned (.bool b) ∧ w = w' := by
  by_cases h0 : 0 ≤ d
  · by_cases h1 : d ≤ 99999
    · obtain rfl : b = true := HB.out ▸ isDt_yes h0 h1
      go_enter Tryd.func35, Tryd.ntmps35
      go_wp2
      go_ret
      exact ⟨rfl, rfl⟩
    · obtain rfl : b = false := HB.out ▸ isDt_no fun h => h1 h.2
      have h2 : decide (d ≤ 99999) = false := decide_eq_false h1
      go_enter Tryd.func35, Tryd.ntmps35
      go_wp2
      go_ret
      exact ⟨ret_bool (by simp <;> omega), rfl⟩
  · obtain rfl : b = false := HB.out ▸ isDt_no fun h => h0 h.1
    go_enter Tryd.func35, Tryd.ntmps35
    go_wp2
    go_ret
    exact ⟨ret_bool (by simp <;> omega), rfl⟩
theorem risDate_any (d : Int) (w : World) {b : Bool} (HB : Hid (isDt d = b)) : Calls Tryd.prog 36 #[.int .i64 d] w fun e w' => e = .returned (.bool b) ∧ w = w' := by
  by_cases h0 : 0 ≤ d
  · by_cases h1 : d ≤ 99999
    · obtain rfl : b = true := HB.out ▸ isDt_yes h0 h1
      go_enter Tryd.func36, Tryd.ntmps36
      go_wp2
      go_ret
      exact ⟨rfl, rfl⟩
    · obtain rfl : b = false := HB.out ▸ isDt_no fun h => h1 h.2
      have h2 : decide (d ≤ 99999) = false := decide_eq_false h1
      go_enter Tryd.func36, Tryd.ntmps36
      go_wp2
      go_ret
      exact ⟨ret_bool (by simp <;> omega), rfl⟩
  · obtain rfl : b = false := HB.out ▸ isDt_no fun h => h0 h.1
    go_enter Tryd.func36, Tryd.ntmps36
    go_wp2
    go_ret
    exact ⟨ret_bool (by simp <;> omega), rfl⟩
end Go.Proofs.YtaagifggeafgnaaDoor

/-
  CONTRACTS of dates: the lengths of months in the specification.
-/
import Derived.Test.YtaagifggeafgnaaDoorC1
namespace Go.Proofs.YtaagifggeafgnaaDoor
open Go.RowKit Go.Lib
set_option linter.unusedVariables false
theorem mlit (j : Nat) (hj : j < 12) : ([.int .i64 31, .int .i64 28, .int .i64 31, .int .i64 30, .int .i64 31, .int .i64 30, .int .i64 31, .int .i64 31, .int .i64 30, .int .i64 31, .int .i64 30, .int .i64 31] : List Value)[j]? = some (.int .i64 ((mtab.getD j 31 : Nat) : Int)) := by
  rcases j with _ | _ | _ | _ | _ | _ | _ | _ | _ | _ | _ | _ | j
  all_goals first | rfl | omega
theorem days_any (y m : Nat) (hy : y ≤ 100000) (m0 : 1 ≤ m) (m1 : m ≤ 12) (w : World) : Calls Tryd.prog 33 #[.int .i64 (y : Int), .int .i64 (m : Int)] w fun e w' => e = .returned (.int .i64 (ml y m : Int)) ∧ Below w.heap.size w w' := by
  by_cases h2 : m = 2
  · subst h2
    cases hl : leapB y
    · have HC : Hid (ml y 2 = 28) := Lib.hid (by simp [ml, hl, mtab])
      go_enter Tryd.func33, Tryd.ntmps33
      go_wp2_with fail
      refine (rleap_any y hy _).mono ?_
      rintro e w' ⟨rfl, rfl⟩
      go_wp2
      go_ret
      exact ⟨ret_int (by rw [HC.out]; rfl), (Below.refl _ _).alloc (Nat.le_refl _) _⟩
    · have HC : Hid (ml y 2 = 29) := Lib.hid (by simp [ml, hl])
      go_enter Tryd.func33, Tryd.ntmps33
      go_wp2_with fail
      refine (rleap_any y hy _).mono ?_
      rintro e w' ⟨rfl, rfl⟩
      go_wp2
      go_ret
      exact ⟨ret_int (by rw [HC.out]; rfl), Below.refl _ _⟩
  · obtain ⟨j, rfl⟩ : ∃ j, m = j + 1 := ⟨m - 1, by omega⟩
    have HC : Hid (ml y (j + 1) = mtab.getD j 31) := Lib.hid (by rw [ml, if_neg (fun h => h2 h.1)]; rfl)
    have e2 : (((j + 1 : Nat) : Int) == 2) = false := by simp; omega
    have hq := mlit j (by omega)
    generalize mtab.getD j 31 = v at *
    go_enter Tryd.func33, Tryd.ntmps33
    go_wp2
    go_ret
    exact ⟨ret_int (by rw [HC.out]), (Below.refl _ _).alloc (Nat.le_refl _) _⟩
theorem bef_step {y : Nat} (h : 1970 ≤ y) : bef (y + 1 - 1970) = bef (y - 1970) + yl y := by
  rw [show y + 1 - 1970 = (y - 1970) + 1 by omega, bef, show 1970 + (y - 1970) = y by omega]
set_option maxRecDepth 8000 in
theorem before_any (Y : Nat) (h0 : 1970 ≤ Y) (h1 : Y ≤ 3000) (w : World) : Calls Tryd.prog 34 #[.int .i64 (Y : Int)] w fun e w' => e = .returned (.int .i64 (bef (Y - 1970) : Int)) ∧ w = w' := by
  go_enter Tryd.func34, Tryd.ntmps34
  go_wp2_with fail
  go_loop [3, 4] (fun n y => ∃ i : Nat, 1970 ≤ i ∧ i ≤ Y ∧ n = .int .i64 (bef (i - 1970) : Int) ∧ y = .int .i64 (i : Int)) (fun _ y => Y - (intOf y).toNat)
  case atStart => exact ⟨1970, Nat.le_refl _, h0, rfl, rfl⟩
  case round =>
    obtain ⟨i, hi0, hi, rfl, rfl⟩ := hrel
    have bb := bef_ge (i - 1970)
    by_cases hlt : i < Y
    · have hS := bef_step hi0
      cases hl : leapB i
      · have HC : Hid (bef (i + 1 - 1970) = bef (i - 1970) + 365) := Lib.hid (by rw [hS, yl, hl]; rfl)
        generalize bef (i - 1970) = n at *
        have hr := fun w => rleap_any i (by omega) w
        rw [hl] at hr
        have HR := Lib.hid hr
        clear hr hl hS
        go_wp2_with fail
        refine (HR.out _).mono ?_
        rintro e w' ⟨rfl, rfl⟩
        go_wp2
        go_round
        case rel => exact ⟨i + 1, by omega, by omega, val_int (by rw [HC.out]; rfl), by go_num⟩
        case measure => simp [intOf]; omega
      · have HC : Hid (bef (i + 1 - 1970) = bef (i - 1970) + 366) := Lib.hid (by rw [hS, yl, hl]; rfl)
        generalize bef (i - 1970) = n at *
        have hr := fun w => rleap_any i (by omega) w
        rw [hl] at hr
        have HR := Lib.hid hr
        clear hr hl hS
        go_wp2_with fail
        refine (HR.out _).mono ?_
        rintro e w' ⟨rfl, rfl⟩
        go_wp2
        go_round
        case rel => exact ⟨i + 1, by omega, by omega, val_int (by rw [HC.out]; push_cast; omega), by go_num⟩
        case measure => simp [intOf]; omega
    · obtain rfl : i = Y := by omega
      go_wp2
      go_ret
      exact ⟨rfl, rfl⟩
end Go.Proofs.YtaagifggeafgnaaDoor

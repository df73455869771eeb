/-
  CONTRACTS of dates: AddMonths, Day.
-/
import Derived.Test.YtaagifggeafgnaaDoorC7
namespace Go.Proofs.YtaagifggeafgnaaDoor
open Go.RowKit Go.Lib
set_option linter.unusedVariables false
set_option linter.unusedSimpArgs false
/-- A function that returns a number and an error, the program's and the specification's: what they return. -/
def dayR (at_ : Int) : Int × Int := if 0 ≤ at_ ∧ at_ ≤ 8639999999 then (at_ / 86400, at_ % 86400) else (-1, -1)
theorem day_ok (t : Nat) (h : t ≤ 8639999999) (w : World) : Calls Tryd.prog 23 #[.int .i64 (t : Int)] w fun e w' => e = .returned (.tuple #[.int .i64 ((t / 86400 : Nat) : Int), .int .i64 ((t % 86400 : Nat) : Int)]) ∧ w = w' := by
  have h1 : (t / 86400 : Nat) ≤ 99999 := by omega
  have g : ¬ (99999 : Int) < (t : Int) / 86400 := by omega
  have g0 : ¬ (t : Int) < 0 := by omega
  go_enter Tryd.func23, Tryd.ntmps23
  go_wp2
  go_ret2
  exact ⟨rfl, rfl⟩
theorem day_neg (t : Int) (h : t < 0) (w : World) : Calls Tryd.prog 23 #[.int .i64 t] w fun e w' => e = .returned (.tuple #[.int .i64 (-1), .int .i64 (-1)]) ∧ w = w' := by
  go_enter Tryd.func23, Tryd.ntmps23
  go_wp2
  go_ret2
  exact ⟨rfl, rfl⟩
theorem day_big (t : Nat) (h0 : (t : Int) ≤ 9223372036854775807) (h : 8639999999 < t) (w : World) : Calls Tryd.prog 23 #[.int .i64 (t : Int)] w fun e w' => e = .returned (.tuple #[.int .i64 (-1), .int .i64 (-1)]) ∧ w = w' := by
  have g : (99999 : Int) < (t : Int) / 86400 := by omega
  have g0 : ¬ (t : Int) < 0 := by omega
  go_enter Tryd.func23, Tryd.ntmps23
  go_wp2
  go_ret2
  exact ⟨rfl, rfl⟩
theorem rday_ok (t : Nat) (h : t ≤ 8639999999) (w : World) : Calls Tryd.prog 24 #[.int .i64 (t : Int)] w fun e w' => e = .returned (.tuple #[.int .i64 ((t / 86400 : Nat) : Int), .int .i64 ((t % 86400 : Nat) : Int)]) ∧ w = w' := by
  have hD : Hid (∀ w, Calls Tryd.prog 36 #[.int .i64 ((t : Int) / 86400)] w fun e w' => e = .returned (.bool true) ∧ w = w') := Lib.hid fun w => risDate_any _ w (Lib.hid (isDt_yes (by omega) (by omega)))
  have g1 : ¬ (1099511627776 : Int) < (t : Int) := by omega
  have g0 : ¬ (t : Int) < 0 := by omega
  go_enter Tryd.func24, Tryd.ntmps24
  go_wp2_with fail
  refine (hD.out _).mono ?_
  rintro e w' ⟨rfl, rfl⟩
  go_wp2
  go_ret2
  exact ⟨rfl, rfl⟩
theorem rday_neg (t : Int) (h : t < 0) (w : World) : Calls Tryd.prog 24 #[.int .i64 t] w fun e w' => e = .returned (.tuple #[.int .i64 (-1), .int .i64 (-1)]) ∧ w = w' := by
  go_enter Tryd.func24, Tryd.ntmps24
  go_wp2
  go_ret2
  exact ⟨rfl, rfl⟩
theorem rday_big (t : Nat) (h0 : (t : Int) ≤ 9223372036854775807) (h : 8639999999 < t) (w : World) : Calls Tryd.prog 24 #[.int .i64 (t : Int)] w fun e w' => e = .returned (.tuple #[.int .i64 (-1), .int .i64 (-1)]) ∧ w = w' := by
  have g0 : ¬ (t : Int) < 0 := by omega
  by_cases g1 : (1099511627776 : Int) < (t : Int)
  · go_enter Tryd.func24, Tryd.ntmps24
    go_wp2
    go_ret2
    exact ⟨rfl, rfl⟩
  · have hD : Hid (∀ w, Calls Tryd.prog 36 #[.int .i64 ((t : Int) / 86400)] w fun e w' => e = .returned (.bool false) ∧ w = w') := Lib.hid fun w => risDate_any _ w (Lib.hid (isDt_no (by omega)))
    go_enter Tryd.func24, Tryd.ntmps24
    go_wp2_with fail
    refine (hD.out _).mono ?_
    rintro e w' ⟨rfl, rfl⟩
    go_wp2
    go_ret2
    exact ⟨rfl, rfl⟩
theorem addm_no (n k : Int) (h : ¬ (isDt n = true ∧ -10000 ≤ k ∧ k ≤ 10000)) (w : World) : Calls Tryd.prog 21 #[.int .i64 n, .int .i64 k] w fun e w' => e = .returned (.tuple #[.int .i64 0, .int .i64 4]) ∧ w = w' := by
  cases hd : isDt n
  · have hD := Lib.hid hd
    clear h hd
    go_enter Tryd.func21, Tryd.ntmps21
    go_wp2_with fail
    refine (isDate_any _ _ hD).mono ?_
    rintro e w' ⟨rfl, rfl⟩
    go_wp2
    go_ret2
    exact ⟨rfl, rfl⟩
  · have hD := Lib.hid hd
    by_cases h1 : -10000 ≤ k
    · have h2 : ¬ k ≤ 10000 := fun h2 => h ⟨hd, h1, h2⟩
      clear h hd
      go_enter Tryd.func21, Tryd.ntmps21
      go_wp2_with fail
      refine (isDate_any _ _ hD).mono ?_
      rintro e w' ⟨rfl, rfl⟩
      go_wp2
      go_ret2
      exact ⟨rfl, rfl⟩
    · clear h hd
      go_enter Tryd.func21, Tryd.ntmps21
      go_wp2_with fail
      refine (isDate_any _ _ hD).mono ?_
      rintro e w' ⟨rfl, rfl⟩
      go_wp2
      go_ret2
      exact ⟨rfl, rfl⟩
theorem raddm_no (n k : Int) (h : ¬ (isDt n = true ∧ -10000 ≤ k ∧ k ≤ 10000)) (w : World) : Calls Tryd.prog 22 #[.int .i64 n, .int .i64 k] w fun e w' => e = .returned (.tuple #[.int .i64 0, .int .i64 4]) ∧ w = w' := by
  cases hd : isDt n
  · have hD := Lib.hid hd
    clear h hd
    go_enter Tryd.func22, Tryd.ntmps22
    go_wp2_with fail
    refine (risDate_any _ _ hD).mono ?_
    rintro e w' ⟨rfl, rfl⟩
    go_wp2
    go_ret2
    exact ⟨rfl, rfl⟩
  · have hD := Lib.hid hd
    by_cases h1 : -10000 ≤ k
    · have h2 : ¬ k ≤ 10000 := fun h2 => h ⟨hd, h1, h2⟩
      clear h hd
      go_enter Tryd.func22, Tryd.ntmps22
      go_wp2_with fail
      refine (risDate_any _ _ hD).mono ?_
      rintro e w' ⟨rfl, rfl⟩
      go_wp2
      go_ret2
      exact ⟨rfl, rfl⟩
    · clear h hd
      go_enter Tryd.func22, Tryd.ntmps22
      go_wp2_with fail
      refine (risDate_any _ _ hD).mono ?_
      rintro e w' ⟨rfl, rfl⟩
      go_wp2
      go_ret2
      exact ⟨rfl, rfl⟩
set_option maxHeartbeats 1600000 in
theorem addm_out {n y m d : Nat} (h : IsD n y m d) (hn : n ≤ 99999) (k : Int) (k0 : -10000 ≤ k) (k1 : k ≤ 10000) (hk : ¬ (23640 ≤ (y : Int) * 12 + m - 1 + k ∧ (y : Int) * 12 + m - 1 + k ≤ 26927)) (w : World) (hM : Mth w) : Calls Tryd.prog 21 #[.int .i64 (n : Int), .int .i64 k] w fun e w' => e = .returned (.tuple #[.int .i64 0, .int .i64 4]) ∧ w = w' := by
  have hy0 := h.y0
  have hy1 := h.y1 (by omega)
  have hm0 := h.m0
  have hm1 := h.m1
  have hD : Hid (isDt (n : Int) = true) := Lib.hid (isDt_yes (by omega) (by omega))
  have S1 := Lib.hid (split_ok h hn w hM)
  clear h
  by_cases hlo : 23640 ≤ (y : Int) * 12 + m - 1 + k
  · have hhi : ¬ (y : Int) * 12 + m - 1 + k ≤ 26927 := fun h2 => hk ⟨hlo, h2⟩
    have q1 : ¬ ((y : Int) * 12 + m - 1 + k) / 12 < 1970 := by omega
    have q2 : 2243 < ((y : Int) * 12 + m - 1 + k) / 12 := by omega
    clear hk
    generalize hq : (y : Int) * 12 + m - 1 + k = q at *
    go_enter Tryd.func21, Tryd.ntmps21
    go_wp2_with fail
    refine (isDate_any _ _ hD).mono ?_
    rintro e w' ⟨rfl, rfl⟩
    go_wp2_with fail
    refine S1.out.mono ?_
    rintro e w1 ⟨rfl, rfl⟩
    go_wp2
    go_ret2
    exact ⟨rfl, rfl⟩
  · have q1 : ((y : Int) * 12 + m - 1 + k) / 12 < 1970 := by omega
    clear hk
    generalize hq : (y : Int) * 12 + m - 1 + k = q at *
    go_enter Tryd.func21, Tryd.ntmps21
    go_wp2_with fail
    refine (isDate_any _ _ hD).mono ?_
    rintro e w' ⟨rfl, rfl⟩
    go_wp2_with fail
    refine S1.out.mono ?_
    rintro e w1 ⟨rfl, rfl⟩
    go_wp2
    go_ret2
    exact ⟨rfl, rfl⟩
set_option maxHeartbeats 1600000 in
theorem raddm_out {n y m d : Nat} (h : IsD n y m d) (hn : n ≤ 99999) (k : Int) (k0 : -10000 ≤ k) (k1 : k ≤ 10000) (hk : ¬ (23640 ≤ (y : Int) * 12 + m - 1 + k ∧ (y : Int) * 12 + m - 1 + k ≤ 26927)) (w : World) : Calls Tryd.prog 22 #[.int .i64 (n : Int), .int .i64 k] w fun e w' => e = .returned (.tuple #[.int .i64 0, .int .i64 4]) ∧ Below w.heap.size w w' := by
  have hy0 := h.y0
  have hy1 := h.y1 (by omega)
  have hm0 := h.m0
  have hm1 := h.m1
  have hD : Hid (isDt (n : Int) = true) := Lib.hid (isDt_yes (by omega) (by omega))
  have S1 := Lib.hid (rsplit_ok h hn w)
  clear h
  by_cases hlo : 23640 ≤ (y : Int) * 12 + m - 1 + k
  · have hhi : ¬ (y : Int) * 12 + m - 1 + k ≤ 26927 := fun h2 => hk ⟨hlo, h2⟩
    have q1 : ¬ ((y : Int) * 12 + m - 1 + k) / 12 < 1970 := by omega
    have q2 : 2243 < ((y : Int) * 12 + m - 1 + k) / 12 := by omega
    clear hk
    generalize hq : (y : Int) * 12 + m - 1 + k = q at *
    go_enter Tryd.func22, Tryd.ntmps22
    go_wp2_with fail
    refine (risDate_any _ _ hD).mono ?_
    rintro e w' ⟨rfl, rfl⟩
    go_wp2_with fail
    refine S1.out.mono ?_
    rintro e w1 ⟨rfl, hb1⟩
    go_wp2
    go_ret2
    exact ⟨rfl, hb1⟩
  · have q1 : ((y : Int) * 12 + m - 1 + k) / 12 < 1970 := by omega
    clear hk
    generalize hq : (y : Int) * 12 + m - 1 + k = q at *
    go_enter Tryd.func22, Tryd.ntmps22
    go_wp2_with fail
    refine (risDate_any _ _ hD).mono ?_
    rintro e w' ⟨rfl, rfl⟩
    go_wp2_with fail
    refine S1.out.mono ?_
    rintro e w1 ⟨rfl, hb1⟩
    go_wp2
    go_ret2
    exact ⟨rfl, hb1⟩
end Go.Proofs.YtaagifggeafgnaaDoor

/-
  CONTRACTS of dates: Add.
-/
import Derived.Test.YtaagifggeafgnaaDoorC18
namespace Go.Proofs.YtaagifggeafgnaaDoor
open Go.RowKit Go.Maps
set_option linter.unusedVariables false
set_option linter.unusedSimpArgs false
set_option maxRecDepth 8000 in
set_option maxHeartbeats 800000 in
theorem add_ok {w : World} {c m N : Nat} {S : Int → Bool} (hC : CalAt w c m N S) (x : Nat → Nat) (n : Nat) (h0 : x 0 ≤ 99999) (hn1 : 1 ≤ n) (hn : n ≤ 1000) (h : ∀ t, t < n → IsNext S (x t + 1) (x (t + 1))) :
    Calls Tryd.prog 27 #[.pointer (some ⟨c, 0, none⟩), .int .i64 (x 0 : Int), .int .i64 (n : Int)] w fun e w' => e = .returned (.tuple #[.int .i64 (x n : Int), .int .i64 0]) ∧ w = w' := by
  have hD : Hid (isDt (x 0 : Int) = true) := Lib.hid (isDt_yes (by omega) (by omega))
  have H := Lib.hid h
  have hne : ((n : Int) == 0) = false := by simp; omega
  have g0 : ¬ (n : Int) < 0 := by omega
  have g1 : ¬ (1000 : Int) < (n : Int) := by omega
  have HX : Hid (∀ k, k ≤ n → x k ≤ 99999) := Lib.hid fun k hk => by
    rcases k with _ | k
    · exact h0
    · exact biz_date (h k (by omega)).hit
  clear h
  obtain ⟨x0, hx0⟩ : ∃ x0, x0 = x 0 := ⟨_, rfl⟩
  rw [← hx0] at hD h0 ⊢
  replace hx0 := Lib.hid hx0
  go_enter Tryd.func27, Tryd.ntmps27
  go_wp2_with fail
  refine (isDate_any _ _ hD).mono ?_
  rintro e w' ⟨rfl, rfl⟩
  go_wp2_with fail
  go_loop [1, 31] (fun d i => ∃ k : Nat, k ≤ n ∧ i = .int .i64 (k : Int) ∧ d = .int .i64 (x k : Int)) (fun _ i => n - (intOf i).toNat)
  case atStart => exact ⟨0, Nat.zero_le _, rfl, by rw [← hx0.out]⟩
  case round =>
    obtain ⟨k, hk, rfl, rfl⟩ := hrel
    by_cases hlt : k < n
    · have hxk := HX.out k hk
      have HN : Hid (Calls Tryd.prog 28 #[.pointer (some ⟨c, 0, none⟩), .int .i64 ((x k : Int) + 1)] w fun e w' => e = .returned (.tuple #[.int .i64 (x (k + 1) : Int), .int .i64 0]) ∧ w = w') := Lib.hid (next_ok hC (H.out k hlt))
      generalize x k = a at *
      generalize hb : x (k + 1) = b at *
      replace hb := Lib.hid hb
      go_wp2_with fail
      refine HN.out.mono ?_
      rintro e w' ⟨rfl, rfl⟩
      go_wp2
      go_round
      case rel => exact ⟨k + 1, by omega, by go_num, by rw [hb.out]⟩
      case measure => simp [intOf]; omega
    · obtain rfl : k = n := by omega
      go_wp2
      go_ret2
      exact ⟨rfl, rfl⟩
end Go.Proofs.YtaagifggeafgnaaDoor

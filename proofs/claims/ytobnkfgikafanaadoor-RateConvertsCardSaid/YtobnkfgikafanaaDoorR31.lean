/-
  CONTRACTS of rates: the amounts' specification: IsCurrency, within, Check.
-/
import Derived.Test.YtobnkfgikafanaaDoorR30
namespace Go.Proofs.YtobnkfgikafanaaDoor
open Go.RowKit
set_option linter.unusedVariables false
set_option linter.unusedSimpArgs false
set_option maxHeartbeats 1600000 in
theorem iscur_yes (s : ByteArray) (h : curP s) (w : World) : Calls Tryd.prog 50 #[.string s] w fun e w' => e = .returned (.bool true) ∧ w = w' := by
  obtain ⟨hs, hc⟩ := h
  have HC := Lib.hid hc
  clear hc
  go_enter Tryd.func50, Tryd.ntmps50
  go_wp2_with fail
  go_loop [3] (fun i => ∃ k : Nat, k ≤ 3 ∧ i = .int .i64 (k : Int)) (fun i => 3 - (intOf i).toNat)
  case atStart => exact ⟨0, by decide, rfl⟩
  case round =>
    obtain ⟨k, hk, rfl⟩ := hrel
    by_cases hlt : k < 3
    · have hix := fun w => ix_at s k (by omega) (i := (k : Int)) rfl w
      obtain ⟨c0, c1⟩ := HC.out k hlt
      generalize byt s k = c at *
      have g0 : ¬ c < 65 := by omega
      have g1 : ¬ 90 < c := by omega
      have g2 : (k : Int) < 3 := by omega
      go_wp2
      go_round
      case rel => exact ⟨k + 1, by omega, by go_num⟩
      case measure => simp [intOf]; omega
    · obtain rfl : k = 3 := by omega
      go_wp2
      go_ret
      exact ⟨rfl, rfl⟩
set_option maxHeartbeats 1600000 in
theorem iscur_no (s : ByteArray) (hs : s.size ≤ 1000000) (h : ¬ curP s) (w : World) : Calls Tryd.prog 50 #[.string s] w fun e w' => e = .returned (.bool false) ∧ w = w' := by
  have HN := Lib.hid h
  clear h
  go_enter Tryd.func50, Tryd.ntmps50
  go_wp2_with fail
  go_loop [3] (fun i => ∃ k : Nat, k ≤ s.size ∧ k ≤ 3 ∧ i = .int .i64 (k : Int) ∧ ∀ j, j < k → capAt s j) (fun i => 3 - (intOf i).toNat)
  case atStart => exact ⟨0, Nat.zero_le _, Nat.zero_le _, rfl, fun j hj => absurd hj (by omega)⟩
  case round =>
    obtain ⟨k, hk, hk3, rfl, hall⟩ := hrel
    have HA := Lib.hid hall
    clear hall
    by_cases hlt : k < s.size
    · by_cases h3 : k < 3
      · have g2 : (k : Int) < 3 := by omega
        have hix := fun w => ix_at s k (by omega) (i := (k : Int)) rfl w
        by_cases hc : capAt s k
        · have HC := Lib.hid (caps_snoc HA.out hc)
          obtain ⟨c0, c1⟩ := hc
          generalize byt s k = c at *
          have g0 : ¬ c < 65 := by omega
          have g1 : ¬ 90 < c := by omega
          go_wp2
          go_round
          case rel => exact ⟨k + 1, by omega, by omega, by go_num, HC.out⟩
          case measure => simp [intOf]; omega
        · unfold capAt at hc
          generalize byt s k = c at *
          by_cases g0 : c < 65
          · clear hc
            go_wp2
            go_ret
            exact ⟨rfl, rfl⟩
          · have g1 : 90 < c := by omega
            clear hc
            go_wp2
            go_ret
            exact ⟨rfl, rfl⟩
      · obtain rfl : k = 3 := by omega
        have e3 : ((s.size : Int) == 3) = false := by
          simp only [beq_eq_false_iff_ne, ne_eq]
          intro h3
          exact HN.out ⟨by omega, fun j hj => HA.out j (by omega)⟩
        go_wp2
        go_ret
        exact ⟨rfl, rfl⟩
    · have e3 : ((s.size : Int) == 3) = false := by
        simp only [beq_eq_false_iff_ne, ne_eq]
        intro h3
        exact HN.out ⟨by omega, fun j hj => HA.out j (by omega)⟩
      go_wp2
      go_ret
      exact ⟨rfl, rfl⟩
theorem within_any (a : Int) {b : Bool} (HB : Hid (decide (-4503599627370496 ≤ a ∧ a ≤ 4503599627370496) = b)) (w : World) : Calls Tryd.prog 51 #[.int .i64 a] w fun x w' => x = .returned (.bool b) ∧ w = w' := by
  by_cases g0 : -4503599627370496 ≤ a
  · by_cases g1 : a ≤ 4503599627370496
    · have HE : Hid (true = b) := Lib.hid (by rw [← HB.out, decide_eq_true ⟨g0, g1⟩])
      clear HB
      go_enter Tryd.func51, Tryd.ntmps51
      go_wp2
      go_ret
      exact ⟨ret_bool HE.out, rfl⟩
    · have HE : Hid (false = b) := Lib.hid (by rw [← HB.out, decide_eq_false (fun h => g1 h.2)])
      have g2 : decide (a ≤ 4503599627370496) = false := decide_eq_false g1
      clear HB
      go_enter Tryd.func51, Tryd.ntmps51
      go_wp2
      go_ret
      exact ⟨ret_bool (by rw [← HE.out] <;> first | rfl | exact g2 | (simp; omega)), rfl⟩
  · have HE : Hid (false = b) := Lib.hid (by rw [← HB.out, decide_eq_false (fun h => g0 h.1)])
    clear HB
    go_enter Tryd.func51, Tryd.ntmps51
    go_wp2
    go_ret
    exact ⟨ret_bool (by rw [← HE.out] <;> first | rfl | (simp; omega)), rfl⟩
set_option maxHeartbeats 1600000 in
theorem rmchk_any (a : Int) (c : ByteArray) (hc : c.size ≤ 1000000) {e : Int} (H : Hid (mchkR a c = e)) (w : World) : Calls Tryd.prog 36 #[.agg #[.int .i64 a, .string c]] w fun x w' => x = .returned (.int .i64 e) ∧ Pushed w w' := by
  by_cases h1 : curP c
  case neg =>
    have HE : Hid (11 = e) := Lib.hid (by rw [← H.out, mchkR, if_neg h1])
    have A := Lib.hid (fun w => iscur_no c hc h1 w)
    clear h1 H
    go_enter Tryd.func36, Tryd.ntmps36
    go_wp2_with fail
    refine (A.out _).mono ?_
    rintro x w1 ⟨rfl, rfl⟩
    go_wp2
    go_ret
    exact ⟨ret_int HE.out, (by repeat (first | with_reducible exact Pushed.refl _ | with_reducible assumption | with_reducible refine Pushed.alloc ?_ _ | with_reducible refine Pushed.drewN ?_ _ | with_reducible refine Pushed.drew ?_))⟩
  have A := Lib.hid (fun w => iscur_yes c h1 w)
  by_cases g : -4503599627370496 ≤ a ∧ a ≤ 4503599627370496
  case neg =>
    have HE : Hid (4 = e) := Lib.hid (by rw [← H.out, mchkR, if_pos h1, if_neg g])
    have B := Lib.hid (fun w => within_any a (Lib.hid (decide_eq_false g)) w)
    clear h1 H g
    go_enter Tryd.func36, Tryd.ntmps36
    go_wp2_with fail
    refine (A.out _).mono ?_
    rintro x w1 ⟨rfl, rfl⟩
    go_wp2_with fail
    refine (B.out _).mono ?_
    rintro x w2 ⟨rfl, rfl⟩
    go_wp2
    go_ret
    exact ⟨ret_int HE.out, (by repeat (first | with_reducible exact Pushed.refl _ | with_reducible assumption | with_reducible refine Pushed.alloc ?_ _ | with_reducible refine Pushed.drewN ?_ _ | with_reducible refine Pushed.drew ?_))⟩
  have HE : Hid (0 = e) := Lib.hid (by rw [← H.out, mchkR, if_pos h1, if_pos g])
  have B := Lib.hid (fun w => within_any a (Lib.hid (decide_eq_true g)) w)
  clear h1 H g
  go_enter Tryd.func36, Tryd.ntmps36
  go_wp2_with fail
  refine (A.out _).mono ?_
  rintro x w1 ⟨rfl, rfl⟩
  go_wp2_with fail
  refine (B.out _).mono ?_
  rintro x w2 ⟨rfl, rfl⟩
  go_wp2
  go_ret
  exact ⟨ret_int HE.out, (by repeat (first | with_reducible exact Pushed.refl _ | with_reducible assumption | with_reducible refine Pushed.alloc ?_ _ | with_reducible refine Pushed.drewN ?_ _ | with_reducible refine Pushed.drew ?_))⟩
end Go.Proofs.YtobnkfgikafanaaDoor

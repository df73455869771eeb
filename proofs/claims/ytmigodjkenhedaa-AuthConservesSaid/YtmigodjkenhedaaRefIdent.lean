/-
  CONTRACTS of the specification's own look at identifications and currencies: the same plain functions.
-/
import Derived.Test.YtmigodjkenhedaaIdent
namespace Go.Proofs.Ytmigodjkenhedaa
open Go.RowKit
set_option linter.unusedVariables false

theorem refcur_any (s : ByteArray) (hs : s.size ≤ maxLen) (w : World) :
    Calls Try.prog 30 #[.string s] w fun e w' => e = .returned (.bool (curB s.data.toList)) ∧ w = w' := by
  unfold maxLen at hs
  by_cases h3 : s.size = 3
  · have hlo : 3 ≤ s.size := by omega
    have HC := Lib.hid (cur3 h3 (Nat.lt_of_lt_of_le (by decide) hlo) (Nat.lt_of_lt_of_le (by decide) hlo) (Nat.lt_of_lt_of_le (by decide) hlo))
    have e3 : ((s.size : Int) == 3) = true := by simp; omega
    have hhi : s.size ≤ 3 := by omega
    clear h3
    go_enter Try.func30, Try.ntmps30
    go_wp2
    all_goals go_ret
    all_goals exact ⟨ret_bool (by rw [HC.out]; unfold capI; rw [Bool.eq_iff_iff]; simp; omega), rfl⟩
  · have HC := Lib.hid (cur_other h3)
    have e3 : ((s.size : Int) == 3) = false := by simp; omega
    go_enter Try.func30, Try.ntmps30
    go_wp2
    go_ret
    exact ⟨ret_bool HC.out.symm, rfl⟩

theorem identB_short {s : ByteArray} (h : (s.size : Int) < 1) : identB s.data.toList 16 = false := by
  have : s.data.toList = [] := List.eq_nil_of_length_eq_zero (by rw [len_size]; omega)
  rw [this]; rfl
theorem identB_long {s : ByteArray} (h : 16 < (s.size : Int)) : identB s.data.toList 16 = false := by
  unfold identB; rw [len_size, decide_eq_false (by omega : ¬ (s.size : Int) ≤ 16)]; simp
theorem identB_mid {s : ByteArray} (h : 1 ≤ (s.size : Int)) (h' : (s.size : Int) ≤ 16) : identB s.data.toList 16 = allB identI s.data.toList := by
  have : s.data.toList.isEmpty = false := by
    cases hl : s.data.toList with
    | nil => have := len_size s; rw [hl] at this; simp at this; omega
    | cons => rfl
  unfold identB; rw [len_size, decide_eq_true h', this]; simp

set_option maxHeartbeats 1000000 in
theorem refid_any (s : ByteArray) (hs : s.size ≤ maxLen) (w : World) :
    Calls Try.prog 29 #[.string s] w fun e w' => e = .returned (.bool (identB s.data.toList 16)) ∧ w = w' := by
  unfold maxLen at hs
  by_cases hl : (s.size : Int) < 1
  · have HC := Lib.hid (identB_short hl)
    go_enter Try.func29, Try.ntmps29
    go_wp2
    go_ret
    exact ⟨ret_bool HC.out.symm, rfl⟩
  by_cases hh : 16 < (s.size : Int)
  · have HC := Lib.hid (identB_long hh)
    go_enter Try.func29, Try.ntmps29
    go_wp2
    go_ret
    exact ⟨ret_bool HC.out.symm, rfl⟩
  have HC := Lib.hid (identB_mid (by omega) (by omega) : identB s.data.toList 16 = _)
  have d1 : decide ((s.size : Int) < 1) = false := by simp; omega
  have d2 : decide (16 < (s.size : Int)) = false := by simp; omega
  go_enter Try.func29, Try.ntmps29
  go_wp2_with fail
  go_loop [3] (fun i => ∃ k : Nat, k ≤ s.size ∧ i = .int .i64 k ∧ Good identI s k) (fun i => s.size - (intOf i).toNat)
  case atStart => exact ⟨0, Nat.zero_le _, rfl, good_zero _ _⟩
  case round =>
    obtain ⟨k, hk, rfl, hg⟩ := hrel
    by_cases hlt : k < s.size
    · have hb : s[k].toNat < 256 := s[k].toNat_lt
      have hgo : identI s[k] = true → Good identI s (k + 1) := good_snoc hg hlt
      have hno : identI s[k] = false → allB identI s.data.toList = false := bad_all hlt
      have HGO := Lib.hid hgo
      have HNO := Lib.hid hno
      clear hgo hno hg
      by_cases ha : 97 ≤ (s[k].toNat : Int) ∧ (s[k].toNat : Int) ≤ 122
      · have HG : Hid (Good identI s (k + 1)) := HGO.out (by simp [identI, letterB]; omega)
        obtain ⟨ha1, ha2⟩ := ha
        clear HGO HNO
        go_wp2
        go_round
        case rel => exact ⟨k + 1, by omega, by go_num, HG.out⟩
        case measure => simp [intOf]; omega
      by_cases hA : 65 ≤ (s[k].toNat : Int) ∧ (s[k].toNat : Int) ≤ 90
      · have HG : Hid (Good identI s (k + 1)) := HGO.out (by simp [identI, letterB]; omega)
        obtain ⟨ha1, ha2⟩ := hA
        clear HGO HNO ha
        go_wp2
        go_round
        case rel => exact ⟨k + 1, by omega, by go_num, HG.out⟩
        case measure => simp [intOf]; omega
      by_cases h0 : 48 ≤ (s[k].toNat : Int) ∧ (s[k].toNat : Int) ≤ 57
      · have HG : Hid (Good identI s (k + 1)) := HGO.out (by simp [identI, digitB]; omega)
        obtain ⟨ha1, ha2⟩ := h0
        clear HGO HNO ha hA
        go_wp2
        go_round
        case rel => exact ⟨k + 1, by omega, by go_num, HG.out⟩
        case measure => simp [intOf]; omega
      by_cases h95 : (s[k].toNat : Int) = 95
      · have HG : Hid (Good identI s (k + 1)) := HGO.out (by simp [identI, h95])
        have l95 : 95 ≤ (s[k].toNat : Int) := by omega
        have g95 : (s[k].toNat : Int) ≤ 95 := by omega
        have e95 : ((s[k].toNat : Int) == 95) = true := by simp; omega
        clear HGO HNO h95 ha hA h0
        go_wp2
        go_round
        case rel => exact ⟨k + 1, by omega, by go_num, HG.out⟩
        case measure => simp [intOf]; omega
      have e95 : ((s[k].toNat : Int) == 95) = false := by simp; omega
      by_cases h45 : (s[k].toNat : Int) = 45
      · have HG : Hid (Good identI s (k + 1)) := HGO.out (by simp [identI, h45])
        have l95 : 45 ≤ (s[k].toNat : Int) := by omega
        have g95 : (s[k].toNat : Int) ≤ 45 := by omega
        have e45 : ((s[k].toNat : Int) == 45) = true := by simp; omega
        clear HGO HNO h45 h95 ha hA h0
        go_wp2
        go_round
        case rel => exact ⟨k + 1, by omega, by go_num, HG.out⟩
        case measure => simp [intOf]; omega
      have e45 : ((s[k].toNat : Int) == 45) = false := by simp; omega
      have HA : Hid (allB identI s.data.toList = false) := HNO.out (by simp [identI, letterB, digitB]; omega)
      have ha' : (s[k].toNat : Int) < 97 ∨ 122 < (s[k].toNat : Int) := by omega
      have hA' : (s[k].toNat : Int) < 65 ∨ 90 < (s[k].toNat : Int) := by omega
      have h0' : (s[k].toNat : Int) < 48 ∨ 57 < (s[k].toNat : Int) := by omega
      clear HGO HNO h95 h45 ha hA h0
      rcases ha' with ha' | ha' <;> rcases hA' with hA' | hA' <;> rcases h0' with h0' | h0' <;> (try have q1 : decide ((s[k].toNat : Int) ≤ 122) = false := decide_eq_false (by omega)) <;> (try have q2 : decide ((s[k].toNat : Int) ≤ 90) = false := decide_eq_false (by omega)) <;> (try have q3 : decide ((s[k].toNat : Int) ≤ 57) = false := decide_eq_false (by omega)) <;> first | (exfalso; omega) | (go_wp2; go_ret; exact ⟨ret_bool (by rw [HC.out]; exact HA.out.symm), rfl⟩)
    · have HA : Hid (allB identI s.data.toList = true) := good_all hg hlt
      clear hg
      go_wp2
      go_ret
      exact ⟨ret_bool (by rw [HC.out]; exact HA.out.symm), rfl⟩
end Go.Proofs.Ytmigodjkenhedaa

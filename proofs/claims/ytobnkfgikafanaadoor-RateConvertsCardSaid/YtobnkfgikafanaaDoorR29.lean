/-
  CONTRACTS of rates: the specification's long division of a product (Divide of the amounts' specification).
-/
import Derived.Test.YtobnkfgikafanaaDoorR28
import Derived.Test.YtobnkfgikafanaaDoorR14
namespace Go.Proofs.YtobnkfgikafanaaDoor
open Go.RowKit
set_option linter.unusedVariables false
set_option linter.unusedSimpArgs false
def qLim (a N d lim : Nat) : Nat := if a * N / d ≤ lim then a * N / d else lim + 1
theorem long_eq (a N b d : Nat) : a * (2 * N + b) = d * (2 * (a * N / d)) + (2 * (a * N % d) + b * a) := by
  have h := Nat.div_add_mod (a * N) d
  have h1 : a * (2 * N + b) = 2 * (a * N) + b * a := by rw [Nat.mul_add, Nat.mul_left_comm, Nat.mul_comm a b]
  have h2 : d * (2 * (a * N / d)) = 2 * (d * (a * N / d)) := Nat.mul_left_comm _ _ _
  rw [h1, h2]
  omega
theorem long_mod (a N b d : Nat) : (2 * (a * N % d) + b * a) % d = a * (2 * N + b) % d := by
  rw [long_eq a N b d, Nat.mul_add_mod]
theorem long_div (a N b d lim : Nat) (hd : 1 ≤ d) : (if 2 * qLim a N d lim + (2 * (a * N % d) + b * a) / d ≤ lim then 2 * qLim a N d lim + (2 * (a * N % d) + b * a) / d else lim + 1) = qLim a (2 * N + b) d lim := by
  have h : a * (2 * N + b) / d = 2 * (a * N / d) + (2 * (a * N % d) + b * a) / d := by
    rw [long_eq a N b d, Nat.mul_add_div hd]
  unfold qLim
  rw [h]
  generalize a * N / d = Q
  generalize (2 * (a * N % d) + b * a) / d = X
  (repeat' split) <;> omega
theorem half_pow (n j : Nat) : n / 2 ^ j = 2 * (n / 2 ^ (j + 1)) + n / 2 ^ j % 2 := by
  rw [Nat.pow_succ, ← Nat.div_div_eq_div_mul]
  omega
theorem i64_and_nat (a b : Nat) (ha : a < 9223372036854775808) (hb : b < 9223372036854775808) : bits .and .i64 (a : Int) (b : Int) = ((a &&& b : Nat) : Int) := by
  have hx : a &&& b < 9223372036854775808 := Nat.lt_of_le_of_lt Nat.and_le_left ha
  show IntKind.i64.wrap ((BitVec.ofInt 64 (a : Int) &&& BitVec.ofInt 64 (b : Int)).toNat : Int) = _
  rw [BitVec.toNat_and, ofInt_u64 a (by omega), ofInt_u64 b (by omega)]
  exact IntWalk.i64_in _ (by omega)
theorem qLim_le (a N d lim : Nat) : qLim a N d lim ≤ lim + 1 := by
  unfold qLim
  generalize a * N / d = x
  split <;> omega
theorem bit_eq (x b : Nat) (hx : x < 9223372036854775808) (h : x % 2 = b) : (bits .and .i64 (x : Int) 1 == 1) = (b == 1) := by
  rw [show (1 : Int) = ((1 : Nat) : Int) from rfl, i64_and_nat x 1 hx (by omega), Nat.and_one_is_mod, h]
  rcases Nat.mod_two_eq_zero_or_one x with h0 | h0
  · rw [h] at h0; subst h0; rfl
  · rw [h] at h0; subst h0; rfl
set_option maxRecDepth 8000 in
set_option maxHeartbeats 3200000 in
theorem rdivide_any (a n d lim : Nat) (ha : a ≤ 4503599627370496) (hn : n ≤ 1099511627776) (hd : 1 ≤ d) (hd2 : d ≤ 1099511627776) (hl : lim ≤ 4503599627370496) (w : World) :
    Calls Tryd.prog 52 #[.int .i64 (a : Int), .int .i64 (n : Int), .int .i64 (d : Int), .int .i64 (lim : Int)] w fun x w' => x = .returned (.tuple #[.int .i64 (qLim a n d lim : Int), .int .i64 ((a * n % d : Nat) : Int)]) ∧ Pushed w w' := by
  go_enter Tryd.func52, Tryd.ntmps52
  go_wp2_with fail
  go_loopw [10, 11, 12] (fun q r i wr => ∃ (k : Nat) (z : Int), k ≤ 53 ∧ i = .int .i64 z ∧ z = (k : Int) - 1 ∧ q = .int .i64 (qLim a (n / 2 ^ k) d lim : Int) ∧ r = .int .i64 ((a * (n / 2 ^ k) % d : Nat) : Int) ∧ Pushed w wr) (fun _ _ i _ => (intOf i + 1).toNat)
  case atStart =>
    have h0 : n / 2 ^ 53 = 0 := Nat.div_eq_of_lt (by omega)
    refine ⟨53, 52, Nat.le_refl _, rfl, by decide, ?_, ?_, Pushed.refl _⟩
    · rw [h0, qLim, Nat.mul_zero, Nat.zero_div, if_pos (Nat.zero_le _)]; rfl
    · rw [h0, Nat.mul_zero, Nat.zero_mod]; rfl
  case round =>
    obtain ⟨k, z, hk, rfl, hz, rfl, rfl, hP⟩ := hrel
    have HP := Lib.hid hP
    clear hP
    cases k with
    | zero =>
      obtain rfl : z = -1 := by omega
      clear hz
      rw [Nat.pow_zero, Nat.div_one]
      go_wp2
      go_ret2
      exact ⟨rfl, HP.out⟩
    | succ j =>
      obtain rfl : z = (j : Int) := by omega
      clear hz
      have hm := half_pow n j
      have hsmall : n / 2 ^ j ≤ n := Nat.div_le_self _ _
      have hb := bit_eq (n / 2 ^ j) (n / 2 ^ j % 2) (by omega) rfl
      have hcast : (n : Int) / 2 ^ j = ((n / 2 ^ j : Nat) : Int) := by simp
      have hQ := qLim_le a (n / 2 ^ (j + 1)) d lim
      have hR : a * (n / 2 ^ (j + 1)) % d < d := Nat.mod_lt _ hd
      have hstep := long_div a (n / 2 ^ (j + 1)) (n / 2 ^ j % 2) d lim hd
      have hmod := long_mod a (n / 2 ^ (j + 1)) (n / 2 ^ j % 2) d
      rw [← hm] at hstep hmod
      rw [← hcast] at hb
      clear hm hcast hsmall
      generalize qLim a (n / 2 ^ (j + 1)) d lim = Q at *
      generalize a * (n / 2 ^ (j + 1)) % d = R at *
      rcases Nat.mod_two_eq_zero_or_one (n / 2 ^ j) with hz | hz
      · rw [hz] at hb hstep hmod
        replace hb : (bits .and .i64 ((n : Int) / 2 ^ j) 1 == 1) = false := hb
        clear hz
        have ht : (2 * (R : Int)).tdiv (d : Int) = (((2 * R) / d : Nat) : Int) := by
          rw [show 2 * (R : Int) = ((2 * R : Nat) : Int) by simp, Int.tdiv_eq_ediv_of_nonneg (by omega)]; rfl
        have hu : (2 * (R : Int)).tmod (d : Int) = (((2 * R) % d : Nat) : Int) := by
          rw [show 2 * (R : Int) = ((2 * R : Nat) : Int) by simp, Int.tmod_eq_emod_of_nonneg (by omega)]; rfl
        have hX : (2 * R) / d ≤ 2 * R := Nat.div_le_self _ _
        have hY : (2 * R) % d < d := Nat.mod_lt _ hd
        rw [show 2 * R + 0 * a = 2 * R by omega] at hstep hmod
        generalize (2 * R) / d = X at *
        generalize (2 * R) % d = Y at *
        have HQ := Lib.hid hstep
        have HM := Lib.hid hmod
        clear hstep hmod
        by_cases hle : 2 * Q + X ≤ lim
        · have g : ¬ (lim : Int) < 2 * (Q : Int) + (X : Int) := by omega
          have HF : Hid (2 * Q + X = qLim a (n / 2 ^ j) d lim) := Lib.hid (by rw [← HQ.out, if_pos hle])
          clear HQ hle
          go_wp2
          exact ⟨⟨j, (j : Int) - 1, by omega, rfl, rfl, by rw [← HF.out]; congr 1, by rw [← HM.out], HP.out⟩, by simp [intOf]⟩
        · have g : (lim : Int) < 2 * (Q : Int) + (X : Int) := by omega
          have HF : Hid (lim + 1 = qLim a (n / 2 ^ j) d lim) := Lib.hid (by rw [← HQ.out, if_neg hle])
          clear HQ hle
          go_wp2
          exact ⟨⟨j, (j : Int) - 1, by omega, rfl, rfl, by rw [← HF.out]; congr 1, by rw [← HM.out], HP.out⟩, by simp [intOf]⟩
      · rw [hz] at hb hstep hmod
        replace hb : (bits .and .i64 ((n : Int) / 2 ^ j) 1 == 1) = true := hb
        clear hz
        have ht : (2 * (R : Int) + (a : Int)).tdiv (d : Int) = (((2 * R + a) / d : Nat) : Int) := by
          rw [show 2 * (R : Int) + (a : Int) = ((2 * R + a : Nat) : Int) by simp, Int.tdiv_eq_ediv_of_nonneg (by omega)]; rfl
        have hu : (2 * (R : Int) + (a : Int)).tmod (d : Int) = (((2 * R + a) % d : Nat) : Int) := by
          rw [show 2 * (R : Int) + (a : Int) = ((2 * R + a : Nat) : Int) by simp, Int.tmod_eq_emod_of_nonneg (by omega)]; rfl
        have hX : (2 * R + a) / d ≤ 2 * R + a := Nat.div_le_self _ _
        have hY : (2 * R + a) % d < d := Nat.mod_lt _ hd
        rw [show 2 * R + 1 * a = 2 * R + a by omega] at hstep hmod
        generalize (2 * R + a) / d = X at *
        generalize (2 * R + a) % d = Y at *
        have HQ := Lib.hid hstep
        have HM := Lib.hid hmod
        clear hstep hmod
        by_cases hle : 2 * Q + X ≤ lim
        · have g : ¬ (lim : Int) < 2 * (Q : Int) + (X : Int) := by omega
          have HF : Hid (2 * Q + X = qLim a (n / 2 ^ j) d lim) := Lib.hid (by rw [← HQ.out, if_pos hle])
          clear HQ hle
          go_wp2
          exact ⟨⟨j, (j : Int) - 1, by omega, rfl, rfl, by rw [← HF.out]; congr 1, by rw [← HM.out], HP.out⟩, by simp [intOf]⟩
        · have g : (lim : Int) < 2 * (Q : Int) + (X : Int) := by omega
          have HF : Hid (lim + 1 = qLim a (n / 2 ^ j) d lim) := Lib.hid (by rw [← HQ.out, if_neg hle])
          clear HQ hle
          go_wp2
          exact ⟨⟨j, (j : Int) - 1, by omega, rfl, rfl, by rw [← HF.out]; congr 1, by rw [← HM.out], HP.out⟩, by simp [intOf]⟩
end Go.Proofs.YtobnkfgikafanaaDoor

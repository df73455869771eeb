/-
  MATHEMATICS of a division of two words by one: a step of the school's division (one digit of 2^32), and the whole.
-/
import Derived.Test.YtobnkfgikafanaaDoorRMath
namespace Go.Proofs.YtobnkfgikafanaaDoor
set_option linter.unusedVariables false
/-- What holds of the digit q that is tried and its rest r: u = q h + r, and the true digit is at most q. -/
def Dig (Y h u c q r : Nat) : Prop := u = q * h + r ∧ (u * 4294967296 + c) / Y ≤ q
theorem dig_lt {Y u c : Nat} (hu : u < Y) (hc : c < 4294967296) : (u * 4294967296 + c) / Y < 4294967296 := by
  rw [Nat.div_lt_iff_lt_mul (by omega)]
  have : (u + 1) * 4294967296 ≤ Y * 4294967296 := Nat.mul_le_mul_right _ hu
  have : 4294967296 * Y = Y * 4294967296 := Nat.mul_comm _ _
  omega
theorem dig_start {Y h l u c : Nat} (hY : Y = h * 4294967296 + l) (h0 : 1 ≤ h) (hc : c < 4294967296) : Dig Y h u c (u / h) (u % h) := by
  refine ⟨?_, ?_⟩
  · rw [Nat.mul_comm]
    exact (Nat.div_add_mod u h).symm
  · apply Nat.le_of_lt_succ
    rw [Nat.div_lt_iff_lt_mul (by omega)]
    have h1 : u < h * (u / h + 1) := Nat.lt_mul_div_succ u h0
    have h2 : (u + 1) * 4294967296 ≤ (h * (u / h + 1)) * 4294967296 := Nat.mul_le_mul_right _ h1
    have h3 : (u / h).succ * Y = (h * (u / h + 1)) * 4294967296 + (u / h + 1) * l := by
      rw [hY, Nat.succ_eq_add_one, Nat.mul_add]
      congr 1
      rw [← Nat.mul_assoc, Nat.mul_comm (u / h + 1) h]
    omega
theorem dig_down {Y h l u c q r : Nat} (hY : Y = h * 4294967296 + l) (h0 : 1 ≤ h) (hu : u < Y) (hc : c < 4294967296) (H : Dig Y h u c q r) (hb : 4294967296 ≤ q ∨ 4294967296 * r + c < q * l) : 1 ≤ q ∧ Dig Y h u c (q - 1) (r + h) := by
  obtain ⟨hq, hQ⟩ := H
  have hlt := dig_lt hu hc
  have hne : (u * 4294967296 + c) / Y < q := by
    rcases hb with hb | hb
    · omega
    · rw [Nat.div_lt_iff_lt_mul (by omega), hY, Nat.mul_add, ← Nat.mul_assoc, hq, Nat.add_mul]
      omega
  unfold Dig
  generalize (u * 4294967296 + c) / Y = Q at *
  refine ⟨by omega, ?_, by omega⟩
  obtain ⟨p, rfl⟩ : ∃ p, q = p + 1 := ⟨q - 1, by omega⟩
  rw [hq, Nat.add_sub_cancel, Nat.add_mul]
  omega
theorem dig_stop {Y h l u c q r : Nat} (hY : Y = h * 4294967296 + l) (h0 : 1 ≤ h) (H : Dig Y h u c q r) (hb : q * l ≤ 4294967296 * r + c) : q = (u * 4294967296 + c) / Y := by
  obtain ⟨hq, hQ⟩ := H
  apply Nat.le_antisymm _ hQ
  rw [Nat.le_div_iff_mul_le (by omega), hY, Nat.mul_add, ← Nat.mul_assoc, hq, Nat.add_mul]
  omega
theorem dig_break {Y h l u c q r : Nat} (hY : Y = h * 4294967296 + l) (h0 : 1 ≤ h) (hl : l < 4294967296) (H : Dig Y h u c q r) (hq : q ≤ 4294967297) (hr : 4294967296 ≤ r) : q = (u * 4294967296 + c) / Y := by
  apply dig_stop hY h0 H
  have h1 : q * l ≤ 4294967297 * 4294967295 := Nat.mul_le_mul hq (by omega)
  omega
theorem dig_top {Y h l u : Nat} (hY : Y = h * 4294967296 + l) (hl : l < 4294967296) (h0 : 2147483648 ≤ h) (hu : u < Y) : u / h ≤ 4294967297 := by
  apply Nat.le_of_lt_succ
  rw [Nat.div_lt_iff_lt_mul (by omega)]
  have : (4294967297).succ * h = h * 4294967296 + 2 * h := by rw [Nat.mul_comm]; omega
  omega
/-- The next rest: what is left of the two words behind the digit. -/
theorem dig_rest {Y u c : Nat} (hY : 0 < Y) : u * 4294967296 + c - (u * 4294967296 + c) / Y * Y = (u * 4294967296 + c) % Y := by
  have := Nat.div_add_mod (u * 4294967296 + c) Y
  rw [Nat.mul_comm] at this
  omega
/-- Two steps are the whole division. -/
theorem dig_two {Y u c1 c0 : Nat} (hY : 0 < Y) (h1 : c1 < 4294967296) (h0 : c0 < 4294967296) :
    (u * 4294967296 + c1) / Y * 4294967296 + ((u * 4294967296 + c1) % Y * 4294967296 + c0) / Y = (u * 18446744073709551616 + (c1 * 4294967296 + c0)) / Y ∧
    ((u * 4294967296 + c1) % Y * 4294967296 + c0) % Y = (u * 18446744073709551616 + (c1 * 4294967296 + c0)) % Y := by
  have e := Nat.div_add_mod (u * 4294967296 + c1) Y
  obtain ⟨q, hq⟩ : ∃ q, q = (u * 4294967296 + c1) / Y := ⟨_, rfl⟩
  obtain ⟨r, hr⟩ : ∃ r, r = (u * 4294967296 + c1) % Y := ⟨_, rfl⟩
  rw [← hq, ← hr] at e
  rw [← hq, ← hr]
  have e2 : u * 18446744073709551616 + (c1 * 4294967296 + c0) = (r * 4294967296 + c0) + Y * (q * 4294967296) := by
    rw [← Nat.mul_assoc]
    omega
  rw [e2, Nat.add_mul_div_left _ _ hY, Nat.add_mul_mod_self_left]
  exact ⟨Nat.add_comm _ _, rfl⟩
/-- Both sides doubled s times. -/
theorem dig_scale (n y s : Nat) : n * 2 ^ s / (y * 2 ^ s) = n / y ∧ n * 2 ^ s % (y * 2 ^ s) = n % y * 2 ^ s :=
  ⟨Nat.mul_div_mul_right _ _ (Nat.two_pow_pos s), Nat.mul_mod_mul_right _ _ _⟩
end Go.Proofs.YtobnkfgikafanaaDoor

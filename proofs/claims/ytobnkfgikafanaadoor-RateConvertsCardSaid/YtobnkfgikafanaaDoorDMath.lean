/-
  MATHEMATICS of a division of two words by one: the words shifted, the parts of a word.
-/
import Derived.Test.YtobnkfgikafanaaDoorR28
import Derived.Test.YtobnkfgikafanaaDoorKShelf
import Derived.Lib.BitFns
namespace Go.Proofs.YtobnkfgikafanaaDoor
set_option linter.unusedVariables false
theorem sh_split (lo s : Nat) (hs : s ≤ 64) : lo * 2 ^ s = lo / 2 ^ (64 - s) * 18446744073709551616 + lo * 2 ^ s % 18446744073709551616 := by
  have e : (18446744073709551616 : Nat) = 2 ^ (64 - s) * 2 ^ s := by rw [← Nat.pow_add, show 64 - s + s = 64 by omega]
  have h1 : lo * 2 ^ s / 18446744073709551616 = lo / 2 ^ (64 - s) := by
    rw [e]; exact Nat.mul_div_mul_right _ _ (Nat.two_pow_pos s)
  have h2 := Nat.div_add_mod (lo * 2 ^ s) 18446744073709551616
  rw [h1] at h2
  omega
theorem sh_low (lo s : Nat) (hs : s ≤ 64) (h : lo < 18446744073709551616) : lo / 2 ^ (64 - s) < 2 ^ s := by
  rw [Nat.div_lt_iff_lt_mul (Nat.two_pow_pos _), ← Nat.pow_add, show s + (64 - s) = 64 by omega]
  exact h
theorem sh_or (hi lo s : Nat) (hs : s ≤ 64) (h : lo < 18446744073709551616) : hi * 2 ^ s ||| lo / 2 ^ (64 - s) = hi * 2 ^ s + lo / 2 ^ (64 - s) := by
  rw [Nat.mul_comm hi]
  exact (Nat.two_pow_add_eq_or_of_lt (sh_low lo s hs h) hi).symm
theorem sh_lt (hi lo y s : Nat) (hs : s ≤ 64) (h : lo < 18446744073709551616) (hh : hi < y) : hi * 2 ^ s + lo / 2 ^ (64 - s) < y * 2 ^ s := by
  have h1 := sh_low lo s hs h
  have h2 : (hi + 1) * 2 ^ s ≤ y * 2 ^ s := Nat.mul_le_mul_right _ hh
  rw [Nat.add_mul] at h2
  omega
theorem sh_all (hi lo s : Nat) (hs : s ≤ 64) : (hi * 2 ^ s + lo / 2 ^ (64 - s)) * 18446744073709551616 + lo * 2 ^ s % 18446744073709551616 = (hi * 18446744073709551616 + lo) * 2 ^ s := by
  have := sh_split lo s hs
  have e : hi * 18446744073709551616 * 2 ^ s = hi * 2 ^ s * 18446744073709551616 := by rw [Nat.mul_right_comm]
  rw [Nat.add_mul, Nat.add_mul, e]
  omega
/-- The quotient and the rest of the shifted words. -/
theorem sh_div (hi lo y s : Nat) (hs : s ≤ 64) : ((hi * 2 ^ s + lo / 2 ^ (64 - s)) * 18446744073709551616 + lo * 2 ^ s % 18446744073709551616) / (y * 2 ^ s) = (hi * 18446744073709551616 + lo) / y ∧ ((hi * 2 ^ s + lo / 2 ^ (64 - s)) * 18446744073709551616 + lo * 2 ^ s % 18446744073709551616) % (y * 2 ^ s) / 2 ^ s = (hi * 18446744073709551616 + lo) % y := by
  rw [sh_all hi lo s hs]
  obtain ⟨h1, h2⟩ := dig_scale (hi * 18446744073709551616 + lo) y s
  exact ⟨h1, by rw [h2, Nat.mul_div_cancel _ (Nat.two_pow_pos s)]⟩
theorem bl_spec : ∀ (f x : Nat), x < 2 ^ f → 0 < x → 2 ^ (Lib.bitLenAux f x) ≤ 2 * x ∧ x < 2 ^ (Lib.bitLenAux f x) ∧ 1 ≤ Lib.bitLenAux f x ∧ Lib.bitLenAux f x ≤ f
  | 0, x, h, h0 => by simp at h; omega
  | f + 1, x, h, h0 => by
    unfold Lib.bitLenAux
    rw [if_neg (by omega)]
    rw [Nat.pow_succ] at h
    by_cases h2 : x / 2 = 0
    · have : Lib.bitLenAux f (x / 2) = 0 := by rw [h2]; cases f <;> rfl
      rw [this]
      refine ⟨by omega, by omega, by omega, by omega⟩
    · obtain ⟨a, b, c, d⟩ := bl_spec f (x / 2) (by omega) (by omega)
      rw [Nat.add_comm 1, Nat.pow_succ]
      refine ⟨by omega, by omega, by omega, by omega⟩
/-- How far a word is shifted: to its highest bit. -/
theorem sh_top (y : Nat) (h0 : 0 < y) (h1 : y < 9223372036854775808) : 1 ≤ Lib.bitLen y ∧ Lib.bitLen y ≤ 63 ∧ 9223372036854775808 ≤ y * 2 ^ (64 - Lib.bitLen y) ∧ y * 2 ^ (64 - Lib.bitLen y) < 18446744073709551616 := by
  obtain ⟨a, b, c, d⟩ := bl_spec 64 y (by omega) h0
  unfold Lib.bitLen
  generalize Lib.bitLenAux 64 y = B at *
  have hB : B ≤ 63 := by
    apply Nat.le_of_not_lt
    intro h
    have : (2:Nat) ^ 64 ≤ 2 ^ B := Nat.pow_le_pow_right (by omega) h
    omega
  have e : 2 ^ B * 2 ^ (64 - B) = 18446744073709551616 := by rw [← Nat.pow_add, show B + (64 - B) = 64 by omega]
  have p := Nat.mul_le_mul_right (2 ^ (64 - B)) a
  have q := (Nat.mul_lt_mul_right (Nat.two_pow_pos (64 - B))).2 b
  rw [e] at p q
  rw [Nat.mul_assoc] at p
  exact ⟨c, hB, by omega, q⟩
/-- A word that is left of a difference of products. -/
theorem wrap_diff (a b : Nat) (h : b ≤ a) (h2 : a - b < 18446744073709551616) : IntKind.u64.wrap (IntKind.u64.wrap (a : Int) - IntKind.u64.wrap (b : Int)) = ((a - b : Nat) : Int) := by
  simp [IntKind.wrap, IntKind.bits, IntKind.signed]
  omega
end Go.Proofs.YtobnkfgikafanaaDoor

/-
  MATHEMATICS of a division of two words by one: a step of the school's division (one digit of 2^32), and the whole.
-/
import Derived.Test.YtompkkanckejjaaDoorMMath
import Derived.Lib.BitFns
import Derived.IntWalk
namespace Go.Proofs.YtompkkanckejjaaDoor
set_option linter.unusedVariables false
/-- What holds of the digit q that is tried and its rest r: u = q h + r, and the true digit is at most q. -/
def Dig (Y h u c q r : Nat) : Prop := u = q * h + r ∧ (u * 4294967296 + c) / Y ≤ q
theorem dig_lt {Y u c : Nat} (hu : u < Y) (hc : c < 4294967296) : (u * 4294967296 + c) / Y < 4294967296 := by
  rw [Nat.div_lt_iff_lt_mul (by omega)]
  have : (u + 1) * 4294967296 ≤ Y * 4294967296 := Nat.mul_le_mul_right _ hu
  have : 4294967296 * Y = Y * 4294967296 := Nat.mul_comm _ _
  omega
theorem dig_start {Y h l u c : Nat} (hY : Y = h * 4294967296 + l) (h0 : 1 ≤ h) (hc : c < 4294967296) : Dig Y h u c (u / h) (u % h) := by
  refine ⟨?_, ?_⟩
  · rw [Nat.mul_comm]
    exact (Nat.div_add_mod u h).symm
  · apply Nat.le_of_lt_succ
    rw [Nat.div_lt_iff_lt_mul (by omega)]
    have h1 : u < h * (u / h + 1) := Nat.lt_mul_div_succ u h0
    have h2 : (u + 1) * 4294967296 ≤ (h * (u / h + 1)) * 4294967296 := Nat.mul_le_mul_right _ h1
    have h3 : (u / h).succ * Y = (h * (u / h + 1)) * 4294967296 + (u / h + 1) * l := by
      rw [hY, Nat.succ_eq_add_one, Nat.mul_add]
      congr 1
      rw [← Nat.mul_assoc, Nat.mul_comm (u / h + 1) h]
    omega
theorem dig_down {Y h l u c q r : Nat} (hY : Y = h * 4294967296 + l) (h0 : 1 ≤ h) (hu : u < Y) (hc : c < 4294967296) (H : Dig Y h u c q r) (hb : 4294967296 ≤ q ∨ 4294967296 * r + c < q * l) : 1 ≤ q ∧ Dig Y h u c (q - 1) (r + h) := by
  obtain ⟨hq, hQ⟩ := H
  have hlt := dig_lt hu hc
  have hne : (u * 4294967296 + c) / Y < q := by
    rcases hb with hb | hb
    · omega
    · rw [Nat.div_lt_iff_lt_mul (by omega), hY, Nat.mul_add, ← Nat.mul_assoc, hq, Nat.add_mul]
      omega
  unfold Dig
  generalize (u * 4294967296 + c) / Y = Q at *
  refine ⟨by omega, ?_, by omega⟩
  obtain ⟨p, rfl⟩ : ∃ p, q = p + 1 := ⟨q - 1, by omega⟩
  rw [hq, Nat.add_sub_cancel, Nat.add_mul]
  omega
theorem dig_stop {Y h l u c q r : Nat} (hY : Y = h * 4294967296 + l) (h0 : 1 ≤ h) (H : Dig Y h u c q r) (hb : q * l ≤ 4294967296 * r + c) : q = (u * 4294967296 + c) / Y := by
  obtain ⟨hq, hQ⟩ := H
  apply Nat.le_antisymm _ hQ
  rw [Nat.le_div_iff_mul_le (by omega), hY, Nat.mul_add, ← Nat.mul_assoc, hq, Nat.add_mul]
  omega
theorem dig_break {Y h l u c q r : Nat} (hY : Y = h * 4294967296 + l) (h0 : 1 ≤ h) (hl : l < 4294967296) (H : Dig Y h u c q r) (hq : q ≤ 4294967297) (hr : 4294967296 ≤ r) : q = (u * 4294967296 + c) / Y := by
  apply dig_stop hY h0 H
  have h1 : q * l ≤ 4294967297 * 4294967295 := Nat.mul_le_mul hq (by omega)
  omega
theorem dig_top {Y h l u : Nat} (hY : Y = h * 4294967296 + l) (hl : l < 4294967296) (h0 : 2147483648 ≤ h) (hu : u < Y) : u / h ≤ 4294967297 := by
  apply Nat.le_of_lt_succ
  rw [Nat.div_lt_iff_lt_mul (by omega)]
  have : (4294967297).succ * h = h * 4294967296 + 2 * h := by rw [Nat.mul_comm]; omega
  omega
/-- The next rest: what is left of the two words behind the digit. -/
theorem dig_rest {Y u c : Nat} (hY : 0 < Y) : u * 4294967296 + c - (u * 4294967296 + c) / Y * Y = (u * 4294967296 + c) % Y := by
  have := Nat.div_add_mod (u * 4294967296 + c) Y
  rw [Nat.mul_comm] at this
  omega
/-- Two steps are the whole division. -/
theorem dig_two {Y u c1 c0 : Nat} (hY : 0 < Y) (h1 : c1 < 4294967296) (h0 : c0 < 4294967296) :
    (u * 4294967296 + c1) / Y * 4294967296 + ((u * 4294967296 + c1) % Y * 4294967296 + c0) / Y = (u * 18446744073709551616 + (c1 * 4294967296 + c0)) / Y ∧
    ((u * 4294967296 + c1) % Y * 4294967296 + c0) % Y = (u * 18446744073709551616 + (c1 * 4294967296 + c0)) % Y := by
  have e := Nat.div_add_mod (u * 4294967296 + c1) Y
  obtain ⟨q, hq⟩ : ∃ q, q = (u * 4294967296 + c1) / Y := ⟨_, rfl⟩
  obtain ⟨r, hr⟩ : ∃ r, r = (u * 4294967296 + c1) % Y := ⟨_, rfl⟩
  rw [← hq, ← hr] at e
  rw [← hq, ← hr]
  have e2 : u * 18446744073709551616 + (c1 * 4294967296 + c0) = (r * 4294967296 + c0) + Y * (q * 4294967296) := by
    rw [← Nat.mul_assoc]
    omega
  rw [e2, Nat.add_mul_div_left _ _ hY, Nat.add_mul_mod_self_left]
  exact ⟨Nat.add_comm _ _, rfl⟩
/-- Both sides doubled s times. -/
theorem dig_scale (n y s : Nat) : n * 2 ^ s / (y * 2 ^ s) = n / y ∧ n * 2 ^ s % (y * 2 ^ s) = n % y * 2 ^ s :=
  ⟨Nat.mul_div_mul_right _ _ (Nat.two_pow_pos s), Nat.mul_mod_mul_right _ _ _⟩
theorem sh_split (lo s : Nat) (hs : s ≤ 64) : lo * 2 ^ s = lo / 2 ^ (64 - s) * 18446744073709551616 + lo * 2 ^ s % 18446744073709551616 := by
  have e : (18446744073709551616 : Nat) = 2 ^ (64 - s) * 2 ^ s := by rw [← Nat.pow_add, show 64 - s + s = 64 by omega]
  have h1 : lo * 2 ^ s / 18446744073709551616 = lo / 2 ^ (64 - s) := by
    rw [e]; exact Nat.mul_div_mul_right _ _ (Nat.two_pow_pos s)
  have h2 := Nat.div_add_mod (lo * 2 ^ s) 18446744073709551616
  rw [h1] at h2
  omega
theorem sh_low (lo s : Nat) (hs : s ≤ 64) (h : lo < 18446744073709551616) : lo / 2 ^ (64 - s) < 2 ^ s := by
  rw [Nat.div_lt_iff_lt_mul (Nat.two_pow_pos _), ← Nat.pow_add, show s + (64 - s) = 64 by omega]
  exact h
theorem sh_or (hi lo s : Nat) (hs : s ≤ 64) (h : lo < 18446744073709551616) : hi * 2 ^ s ||| lo / 2 ^ (64 - s) = hi * 2 ^ s + lo / 2 ^ (64 - s) := by
  rw [Nat.mul_comm hi]
  exact (Nat.two_pow_add_eq_or_of_lt (sh_low lo s hs h) hi).symm
theorem sh_lt (hi lo y s : Nat) (hs : s ≤ 64) (h : lo < 18446744073709551616) (hh : hi < y) : hi * 2 ^ s + lo / 2 ^ (64 - s) < y * 2 ^ s := by
  have h1 := sh_low lo s hs h
  have h2 : (hi + 1) * 2 ^ s ≤ y * 2 ^ s := Nat.mul_le_mul_right _ hh
  rw [Nat.add_mul] at h2
  omega
theorem sh_all (hi lo s : Nat) (hs : s ≤ 64) : (hi * 2 ^ s + lo / 2 ^ (64 - s)) * 18446744073709551616 + lo * 2 ^ s % 18446744073709551616 = (hi * 18446744073709551616 + lo) * 2 ^ s := by
  have := sh_split lo s hs
  have e : hi * 18446744073709551616 * 2 ^ s = hi * 2 ^ s * 18446744073709551616 := by rw [Nat.mul_right_comm]
  rw [Nat.add_mul, Nat.add_mul, e]
  omega
/-- The quotient and the rest of the shifted words. -/
theorem sh_div (hi lo y s : Nat) (hs : s ≤ 64) : ((hi * 2 ^ s + lo / 2 ^ (64 - s)) * 18446744073709551616 + lo * 2 ^ s % 18446744073709551616) / (y * 2 ^ s) = (hi * 18446744073709551616 + lo) / y ∧ ((hi * 2 ^ s + lo / 2 ^ (64 - s)) * 18446744073709551616 + lo * 2 ^ s % 18446744073709551616) % (y * 2 ^ s) / 2 ^ s = (hi * 18446744073709551616 + lo) % y := by
  rw [sh_all hi lo s hs]
  obtain ⟨h1, h2⟩ := dig_scale (hi * 18446744073709551616 + lo) y s
  exact ⟨h1, by rw [h2, Nat.mul_div_cancel _ (Nat.two_pow_pos s)]⟩
theorem bl_spec : ∀ (f x : Nat), x < 2 ^ f → 0 < x → 2 ^ (Lib.bitLenAux f x) ≤ 2 * x ∧ x < 2 ^ (Lib.bitLenAux f x) ∧ 1 ≤ Lib.bitLenAux f x ∧ Lib.bitLenAux f x ≤ f
  | 0, x, h, h0 => by simp at h; omega
  | f + 1, x, h, h0 => by
    unfold Lib.bitLenAux
    rw [if_neg (by omega)]
    rw [Nat.pow_succ] at h
    by_cases h2 : x / 2 = 0
    · have : Lib.bitLenAux f (x / 2) = 0 := by rw [h2]; cases f <;> rfl
      rw [this]
      refine ⟨by omega, by omega, by omega, by omega⟩
    · obtain ⟨a, b, c, d⟩ := bl_spec f (x / 2) (by omega) (by omega)
      rw [Nat.add_comm 1, Nat.pow_succ]
      refine ⟨by omega, by omega, by omega, by omega⟩
/-- How far a word is shifted: to its highest bit. -/
theorem sh_top (y : Nat) (h0 : 0 < y) (h1 : y < 9223372036854775808) : 1 ≤ Lib.bitLen y ∧ Lib.bitLen y ≤ 63 ∧ 9223372036854775808 ≤ y * 2 ^ (64 - Lib.bitLen y) ∧ y * 2 ^ (64 - Lib.bitLen y) < 18446744073709551616 := by
  obtain ⟨a, b, c, d⟩ := bl_spec 64 y (by omega) h0
  unfold Lib.bitLen
  generalize Lib.bitLenAux 64 y = B at *
  have hB : B ≤ 63 := by
    apply Nat.le_of_not_lt
    intro h
    have : (2:Nat) ^ 64 ≤ 2 ^ B := Nat.pow_le_pow_right (by omega) h
    omega
  have e : 2 ^ B * 2 ^ (64 - B) = 18446744073709551616 := by rw [← Nat.pow_add, show B + (64 - B) = 64 by omega]
  have p := Nat.mul_le_mul_right (2 ^ (64 - B)) a
  have q := (Nat.mul_lt_mul_right (Nat.two_pow_pos (64 - B))).2 b
  rw [e] at p q
  rw [Nat.mul_assoc] at p
  exact ⟨c, hB, by omega, q⟩
/-- A word that is left of a difference of products. -/
theorem wrap_diff (a b : Nat) (h : b ≤ a) (h2 : a - b < 18446744073709551616) : IntKind.u64.wrap (IntKind.u64.wrap (a : Int) - IntKind.u64.wrap (b : Int)) = ((a - b : Nat) : Int) := by
  simp [IntKind.wrap, IntKind.bits, IntKind.signed]
  omega
end Go.Proofs.YtompkkanckejjaaDoor


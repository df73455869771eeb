/-
  MATHEMATICS of card numbers: what the check of Luhn detects; order of card numbers.
-/
import Derived.Test.YtddnfjaogekmjaaDoorP20
namespace Go.Proofs.YtddnfjaogekmjaaDoor
open Go.RowKit
set_option linter.unusedVariables false
set_option linter.unusedSimpArgs false
/-- What position k of a text of z bytes adds. -/
def term (s : ByteArray) (k : Nat) : Int := cnt (byt s k - 48) (((s.size : Int) - 1 - (k : Int) + 1) % 2 == 0)
/-- The sum without one position. -/
def lsumBut (s : ByteArray) (i : Nat) : Nat → Int
  | 0 => 0
  | k + 1 => lsumBut s i k + if k = i then 0 else term s k
theorem lsum_but (s : ByteArray) (i : Nat) : ∀ k, lsum s 1 k = lsumBut s i k + if i < k then term s i else 0
  | 0 => rfl
  | k + 1 => by
    have ih := lsum_but s i k
    have e : lsum s 1 (k + 1) = lsum s 1 k + term s k := rfl
    rw [e, ih, lsumBut]
    by_cases h : k = i
    · subst h
      rw [if_neg (by omega), if_pos rfl, if_pos (by omega)]
      try omega
    · rw [if_neg h]
      by_cases h2 : i < k
      · rw [if_pos h2, if_pos (by omega)]; omega
      · rw [if_neg h2, if_neg (by omega)]; omega
theorem but_ext {s t : ByteArray} (i : Nat) (hz : s.size = t.size) : ∀ k, (∀ j, j < k → j ≠ i → byt s j = byt t j) → lsumBut s i k = lsumBut t i k
  | 0, _ => rfl
  | k + 1, h => by
    rw [lsumBut, lsumBut, but_ext i hz k (fun j hj hn => h j (by omega) hn)]
    by_cases he : k = i
    · rw [if_pos he, if_pos he]
    · rw [if_neg he, if_neg he]
      unfold term
      rw [h k (by omega) he, hz]
theorem cnt_inj : ∀ b : Bool, ∀ x : Nat, x < 10 → ∀ y : Nat, y < 10 → cnt (x : Int) b % 10 = cnt (y : Int) b % 10 → x = y := by decide
/-- A wrong digit is detected. -/
theorem luhn_one {s t : ByteArray} (i : Nat) (hi : i < s.size) (hz : s.size = t.size) (hs : Dgs s) (ht : Dgs t) (h : ∀ j, j < s.size → j ≠ i → byt s j = byt t j) (hl : luhnP s) (hl2 : luhnP t) : byt s i = byt t i := by
  unfold luhnP at hl hl2
  have a := lsum_but s i s.size
  have b := lsum_but t i t.size
  rw [if_pos hi] at a
  rw [if_pos (by omega)] at b
  have e := but_ext i hz s.size h
  rw [← hz] at b hl2
  have h1 := hs i hi
  have h2 := ht i (by omega)
  unfold dgAt at h1 h2
  have ht1 : term s i % 10 = term t i % 10 := by rw [e] at a; omega
  unfold term at ht1
  rw [hz] at ht1
  have := cnt_inj (((t.size : Int) - 1 - (i : Int) + 1) % 2 == 0) (byt s i - 48).toNat (by omega) (byt t i - 48).toNat (by omega) (by
    rw [show (((byt s i - 48).toNat : Nat) : Int) = byt s i - 48 by omega, show (((byt t i - 48).toNat : Nat) : Int) = byt t i - 48 by omega]; exact ht1)
  omega
/-- The sum without two neighbours. -/
theorem but_two (s : ByteArray) (i : Nat) : ∀ k, lsumBut s i k = lsumBut s i k := fun _ => rfl
def lsumB2 (s : ByteArray) (i : Nat) : Nat → Int
  | 0 => 0
  | k + 1 => lsumB2 s i k + if k = i ∨ k = i + 1 then 0 else term s k
theorem lsum_b2 (s : ByteArray) (i : Nat) : ∀ k, lsum s 1 k = lsumB2 s i k + (if i < k then term s i else 0) + (if i + 1 < k then term s (i + 1) else 0)
  | 0 => rfl
  | k + 1 => by
    have ih := lsum_b2 s i k
    have e : lsum s 1 (k + 1) = lsum s 1 k + term s k := rfl
    rw [e, ih, lsumB2]
    by_cases h : k = i
    · subst h
      rw [if_neg (show ¬ k < k by omega), if_neg (show ¬ k + 1 < k by omega), if_pos (.inl rfl), if_pos (show k < k + 1 by omega), if_neg (show ¬ k + 1 < k + 1 by omega)]
      omega
    · by_cases h1 : k = i + 1
      · subst h1
        rw [if_pos (show i < i + 1 by omega), if_neg (show ¬ i + 1 < i + 1 by omega), if_pos (.inr rfl), if_pos (show i < i + 1 + 1 by omega), if_pos (show i + 1 < i + 1 + 1 by omega)]
        omega
      · rw [if_neg (show ¬ (k = i ∨ k = i + 1) by omega)]
        by_cases h2 : i < k
        · rw [if_pos h2, if_pos (show i < k + 1 by omega), if_pos (show i + 1 < k by omega), if_pos (show i + 1 < k + 1 by omega)]; omega
        · rw [if_neg h2, if_neg (show ¬ i < k + 1 by omega), if_neg (show ¬ i + 1 < k by omega), if_neg (show ¬ i + 1 < k + 1 by omega)]; omega
theorem b2_ext {s t : ByteArray} (i : Nat) (hz : s.size = t.size) : ∀ k, (∀ j, j < k → j ≠ i → j ≠ i + 1 → byt s j = byt t j) → lsumB2 s i k = lsumB2 t i k
  | 0, _ => rfl
  | k + 1, h => by
    rw [lsumB2, lsumB2, b2_ext i hz k (fun j hj hn hm => h j (by omega) hn hm)]
    by_cases he : k = i ∨ k = i + 1
    · rw [if_pos he, if_pos he]
    · rw [if_neg he, if_neg he]
      unfold term
      rw [h k (by omega) (by omega) (by omega), hz]
theorem cnt_swap0 : ∀ b : Bool, ∀ x : Nat, x < 10 → ∀ y : Nat, y < 10 → x = y ∨ decide ((cnt (x : Int) b + cnt (y : Int) (!b)) % 10 = (cnt (y : Int) b + cnt (x : Int) (!b)) % 10) = decide (x = 0 ∧ y = 9 ∨ x = 9 ∧ y = 0) := by decide
theorem cnt_swap (b : Bool) (x : Nat) (hx : x < 10) (y : Nat) (hy : y < 10) (hn : x ≠ y) : ((cnt (x : Int) b + cnt (y : Int) (!b)) % 10 = (cnt (y : Int) b + cnt (x : Int) (!b)) % 10 ↔ (x = 0 ∧ y = 9 ∨ x = 9 ∧ y = 0)) := by
  rcases cnt_swap0 b x hx y hy with h | h
  · exact absurd h hn
  · exact decide_eq_decide.1 h
theorem par_flip (z i : Int) : ((z - 1 - (i + 1) + 1) % 2 == 0) = !((z - 1 - i + 1) % 2 == 0) := by
  by_cases h : (z - 1 - i + 1) % 2 = 0
  · rw [show ((z - 1 - i + 1) % 2 == 0) = true from beq_iff_eq.2 h, show ((z - 1 - (i + 1) + 1) % 2 == 0) = false from beq_false_of_ne (by omega)]; rfl
  · rw [show ((z - 1 - i + 1) % 2 == 0) = false from beq_false_of_ne h, show ((z - 1 - (i + 1) + 1) % 2 == 0) = true from beq_iff_eq.2 (by omega)]; rfl
/-- An exchange of two different neighbours is detected, but for 0 and 9. -/
theorem luhn_two {s t : ByteArray} (i : Nat) (hi : i + 1 < s.size) (hz : s.size = t.size) (hs : Dgs s) (h : ∀ j, j < s.size → j ≠ i → j ≠ i + 1 → byt s j = byt t j) (h0 : byt t i = byt s (i + 1)) (h1 : byt t (i + 1) = byt s i) (hn : byt s i ≠ byt s (i + 1)) (hl : luhnP s) :
    luhnP t ↔ (byt s i = 48 ∧ byt s (i + 1) = 57 ∨ byt s i = 57 ∧ byt s (i + 1) = 48) := by
  unfold luhnP at *
  have a := lsum_b2 s i s.size
  have b := lsum_b2 t i t.size
  rw [if_pos (by omega), if_pos hi] at a
  rw [← hz] at b ⊢
  rw [if_pos (by omega), if_pos hi] at b
  have e := b2_ext i hz s.size h
  have d0 := hs i (by omega)
  have d1 := hs (i + 1) (by omega)
  unfold dgAt at d0 d1
  have hp := par_flip (s.size : Int) (i : Int)
  unfold term at a b
  rw [h0, h1, ← hz] at b
  rw [show ((i + 1 : Nat) : Int) = (i : Int) + 1 by omega, hp] at a b
  have hc := cnt_swap (((s.size : Int) - 1 - (i : Int) + 1) % 2 == 0) (byt s i - 48).toNat (by omega) (byt s (i + 1) - 48).toNat (by omega) (by omega)
  rw [show (((byt s i - 48).toNat : Nat) : Int) = byt s i - 48 by omega, show (((byt s (i + 1) - 48).toNat : Nat) : Int) = byt s (i + 1) - 48 by omega] at hc
  rw [e] at a
  constructor
  · intro hl2
    have := hc.1 (by omega)
    omega
  · intro hx
    have := hc.2 (by omega)
    omega
end Go.Proofs.YtddnfjaogekmjaaDoor

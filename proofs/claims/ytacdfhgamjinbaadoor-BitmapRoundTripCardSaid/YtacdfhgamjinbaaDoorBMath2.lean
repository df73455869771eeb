/-
  MATHEMATICS of bitmaps: the numbers of a word, from its highest bit down.
-/
import Derived.Test.YtacdfhgamjinbaaDoorBMath
import Derived.Lib.BitFns
import Derived.Lib.ItoaNum
namespace Go.Proofs.YtacdfhgamjinbaaDoor
set_option linter.unusedVariables false
theorem fl_skip (p : Nat → Bool) (k : Nat) : ∀ j, (∀ i, i < j → p (k + i + 2) = false) → fl p (k + j) = fl p k
  | 0, _ => rfl
  | j + 1, h => by rw [← Nat.add_assoc, fl_no (h j (by omega)), fl_skip p k j fun i hi => h i (by omega)]
theorem bl_bounds (x : Nat) (h : x < 18446744073709551616) (h0 : x ≠ 0) : 1 ≤ Lib.bitLen x ∧ 2 ^ (Lib.bitLen x - 1) ≤ x ∧ x < 2 ^ Lib.bitLen x := Lib.bitLenAux_bounds 64 x h h0
theorem top_bit {x t : Nat} (h1 : 2 ^ t ≤ x) (h2 : x < 2 ^ (t + 1)) : x.testBit t = true := by
  have hp : 0 < 2 ^ t := Nat.two_pow_pos t
  have h3 : x / 2 ^ t = 1 := by
    apply Nat.le_antisymm
    · have : x / 2 ^ t < 2 := Nat.div_lt_of_lt_mul (by rw [← Nat.pow_succ]; exact h2)
      omega
    · exact (Nat.le_div_iff_mul_le hp).2 (by omega)
  rw [Nat.testBit_eq_decide_div_mod_eq, h3]; rfl
/-- One round: the highest bit of what is left of a word. -/
theorem top_step {W L : Nat} (hL : L ≤ 64) (h0 : W % 2 ^ L ≠ 0) :
    ∃ t, t < L ∧ Lib.bitLen (W % 2 ^ L) = t + 1 ∧ W.testBit t = true ∧ (∀ s, t < s → s < L → W.testBit s = false) ∧ minN (W % 2 ^ L) (2 ^ t) = W % 2 ^ t := by
  have hlt : W % 2 ^ L < 2 ^ L := Nat.mod_lt _ (Nat.two_pow_pos L)
  have h64 : W % 2 ^ L < 18446744073709551616 := Nat.lt_of_lt_of_le hlt (Nat.pow_le_pow_right (n := 2) (by omega) (show L ≤ 64 from hL))
  obtain ⟨b1, b2, b3⟩ := bl_bounds _ h64 h0
  obtain ⟨t, ht⟩ : ∃ t, Lib.bitLen (W % 2 ^ L) = t + 1 := ⟨Lib.bitLen (W % 2 ^ L) - 1, by omega⟩
  rw [ht] at b2 b3
  rw [Nat.add_sub_cancel] at b2
  have htL : t < L := by
    rcases Nat.lt_or_ge t L with h | h
    · exact h
    · have := Nat.pow_le_pow_right (n := 2) (by omega) h
      omega
  have hbit := top_bit b2 b3
  rw [Nat.testBit_mod_two_pow] at hbit
  have hs : ∀ s, t < s → s < L → W.testBit s = false := by
    intro s h1 h2
    have h3 : (W % 2 ^ L).testBit s = false := Nat.testBit_lt_two_pow (Nat.lt_of_lt_of_le b3 (Nat.pow_le_pow_right (n := 2) (by omega) (show t + 1 ≤ s by omega)))
    rw [Nat.testBit_mod_two_pow, decide_eq_true h2, Bool.true_and] at h3
    exact h3
  refine ⟨t, htL, ht, by simpa [htL] using hbit, hs, ?_⟩
  refine Nat.eq_of_testBit_eq fun i => ?_
  rw [minN_bit _ _ _ (Nat.lt_of_lt_of_le (Nat.pow_lt_pow_right (by omega) (show t < 64 by omega)) (Nat.le_refl _)), Nat.testBit_mod_two_pow, Nat.testBit_mod_two_pow, Nat.testBit_two_pow]
  rcases Nat.lt_trichotomy i t with h | h | h
  · simp [h, show i < L by omega, show i ≤ 63 by omega, show t ≠ i by omega]
  · subst h; simp
  · by_cases hi : i < L
    · simp [hs i h hi, show ¬ i < t by omega]
    · simp [hi, show ¬ i < t by omega]
theorem fl_top {p : Nat → Bool} {W c L t L0 : Nat} (hp : ∀ s, s < L0 → p (c + 1 - s) = W.testBit s) (hL : L ≤ L0) (hc : L0 ≤ c) (ht : t < L) (hb : W.testBit t = true) (hz : ∀ s, t < s → s < L → W.testBit s = false) :
    fl p (c - t) = fl p (c - L) ++ [((c + 1 - t : Nat) : Int)] := by
  have h1 : fl p (c - L + (L - t - 1)) = fl p (c - L) := fl_skip p _ _ fun i hi => by
    have := hp (L - 1 - i) (by omega)
    rw [show c - L + i + 2 = c + 1 - (L - 1 - i) by omega, this]
    exact hz _ (by omega) (by omega)
  have h2 := fl_yes (p := p) (k := c - L + (L - t - 1)) (by rw [show c - L + (L - t - 1) + 2 = c + 1 - t by omega, hp t (by omega)]; exact hb)
  rw [show c - t = c - L + (L - t - 1) + 1 by omega, h2, h1, show c - L + (L - t - 1) + 2 = c + 1 - t by omega]
theorem fl_last {p : Nat → Bool} {W c L L0 : Nat} (hp : ∀ s, s < L0 → p (c + 1 - s) = W.testBit s) (hL : L ≤ L0) (hc : L0 ≤ c) (h0 : W % 2 ^ L = 0) : fl p c = fl p (c - L) := by
  have hz : ∀ s, s < L → W.testBit s = false := by
    intro s hs
    have : (W % 2 ^ L).testBit s = false := by rw [h0]; simp
    rw [Nat.testBit_mod_two_pow, decide_eq_true hs, Bool.true_and] at this
    exact this
  have h1 := fl_skip p (c - L) L fun i hi => by
    rw [show c - L + i + 2 = c + 1 - (L - 1 - i) by omega, hp _ (by omega)]
    exact hz _ (by omega)
  rw [show c - L + L = c by omega] at h1
  exact h1
theorem has_at0 (a b s : Nat) (hs : s < 63) : hasN a b (63 + 1 - s) = (clrN a).testBit s := by
  rw [hasN_lo _ _ _ (by omega), clrN_bit, show 64 - (63 + 1 - s) = s by omega]
  simp; omega
theorem has_at1 (a b s : Nat) (hs : s < 64) : hasN a b (127 + 1 - s) = b.testBit s := by
  rw [hasN_hi _ _ _ (by omega), show 128 - (127 + 1 - s) = s by omega]
end Go.Proofs.YtacdfhgamjinbaaDoor

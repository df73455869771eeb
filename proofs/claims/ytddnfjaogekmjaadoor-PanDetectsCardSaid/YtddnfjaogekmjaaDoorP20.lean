/-
  MATHEMATICS of card numbers: groups and their stripping.
-/
import Derived.Test.YtddnfjaogekmjaaDoorP17
namespace Go.Proofs.YtddnfjaogekmjaaDoor
open Go.RowKit
set_option linter.unusedVariables false
set_option linter.unusedSimpArgs false
theorem grp_at (s : ByteArray) : ∀ k, k ≤ s.size → (grp s k).size = k + (k - 1) / 4 ∧ ∀ j, j < k + (k - 1) / 4 → byt (grp s k) j = if j % 5 = 4 then 32 else byt s (j - j / 5)
  | 0, _ => ⟨rfl, fun j hj => absurd hj (by omega)⟩
  | k + 1, hk => by
    obtain ⟨hz, hb⟩ := grp_at s k (by omega)
    have hbd := byt_bd s k
    rw [grp]
    by_cases h : 0 < k ∧ k % 4 = 0
    · rw [if_pos h]
      refine ⟨by rw [ByteArray.size_append, ByteArray.size_append, one_size, one_size, hz]; omega, fun j hj => ?_⟩
      rcases Nat.lt_or_ge j (k + (k - 1) / 4) with h1 | h1
      · rw [byt_left _ _ _ (by rw [ByteArray.size_append, one_size, hz]; omega), byt_left _ _ _ (by rw [hz]; exact h1)]
        exact hb j h1
      · rcases Nat.lt_or_ge j (k + (k - 1) / 4 + 1) with h2 | h2
        · rw [byt_left _ _ _ (by rw [ByteArray.size_append, one_size, hz]; omega), byt_right _ _ _ (by rw [hz]; exact h1), hz, show j - (k + (k - 1) / 4) = 0 by omega, byt_one _ (by omega) (by omega), if_pos (by omega)]
        · rw [byt_right _ _ _ (by rw [ByteArray.size_append, one_size, hz]; omega), ByteArray.size_append, one_size, hz, show j - (k + (k - 1) / 4 + 1) = 0 by omega, byt_one _ (by omega) (by omega), if_neg (by omega)]
          congr 1
          omega
    · rw [if_neg h]
      have hk4 : (k + 1 - 1) / 4 = (k - 1) / 4 := by
        by_cases h0 : k = 0
        · subst h0; rfl
        · have : k % 4 ≠ 0 := fun h4 => h ⟨by omega, h4⟩
          omega
      rw [hk4]
      refine ⟨by rw [ByteArray.size_append, one_size, hz]; omega, fun j hj => ?_⟩
      rcases Nat.lt_or_ge j (k + (k - 1) / 4) with h1 | h1
      · rw [byt_left _ _ _ (by rw [hz]; exact h1)]
        exact hb j h1
      · rw [byt_right _ _ _ (by rw [hz]; exact h1), hz, show j - (k + (k - 1) / 4) = 0 by omega, byt_one _ (by omega) (by omega), if_neg (by omega)]
        congr 1
        omega
theorem strp_ext {a b : ByteArray} : ∀ k, (∀ j, j < k → byt a j = byt b j) → strp a k = strp b k
  | 0, _ => rfl
  | k + 1, h => by
    have h2 := h k (by omega)
    rw [strp, strp, strp_ext k (fun j hj => h j (by omega)), h2]
    unfold isD
    rw [h2]
theorem strp_one (a : ByteArray) (c : Int) (h0 : 0 ≤ c) (h1 : c ≤ 255) : strp (a ++ one c) (a.size + 1) = if 48 ≤ c ∧ c ≤ 57 then strp a a.size ++ one c else strp a a.size := by
  have hb : byt (a ++ one c) a.size = c := by rw [byt_right _ _ _ (Nat.le_refl _), Nat.sub_self, byt_one _ h0 h1]
  rw [strp, strp_ext (b := a) a.size (fun j hj => byt_left _ _ _ hj), hb]
  unfold isD
  rw [hb]
  simp only [decide_eq_true_eq]
theorem strp_grp (s : ByteArray) (hd : Dgs s) : ∀ k, k ≤ s.size → strp (grp s k) (grp s k).size = s.extract 0 k
  | 0, _ => by
    apply byt_ext
    · rw [size_extract' _ _ _ (by omega)]; rfl
    · intro j hj
      exact absurd hj (by show ¬ j < 0; omega)
  | k + 1, hk => by
    have ih := strp_grp s hd k (by omega)
    have hbd := hd k (by omega)
    unfold dgAt at hbd
    have hx : s.extract 0 k ++ one (byt s k) = s.extract 0 (k + 1) := by
      apply byt_ext
      · rw [ByteArray.size_append, size_extract' _ _ _ (by omega), size_extract' _ _ _ (by omega), one_size]; omega
      · intro j hj
        rw [ByteArray.size_append, size_extract' _ _ _ (by omega), one_size] at hj
        rw [byt_extract s 0 (k + 1) j (by omega) (by omega), Nat.zero_add]
        rcases Nat.lt_or_ge j k with h1 | h1
        · rw [byt_left _ _ _ (by rw [size_extract' _ _ _ (by omega)]; omega), byt_extract _ _ _ _ (by omega) (by omega), Nat.zero_add]
        · obtain rfl : j = k := by omega
          rw [byt_right _ _ _ (by rw [size_extract' _ _ _ (by omega)]; omega), size_extract' _ _ _ (by omega), Nat.sub_zero, Nat.sub_self, byt_one _ (by omega) (by omega)]
    rw [grp]
    by_cases h : 0 < k ∧ k % 4 = 0
    · rw [if_pos h, ByteArray.size_append, one_size, strp_one _ _ (by omega) (by omega), if_pos hbd, ByteArray.size_append, one_size, strp_one _ _ (by omega) (by omega), if_neg (by omega), ih, hx]
    · rw [if_neg h, ByteArray.size_append, one_size, strp_one _ _ (by omega) (by omega), if_pos hbd, ih, hx]
theorem extract_all (s : ByteArray) : s.extract 0 s.size = s := by
  apply byt_ext
  · rw [size_extract' _ _ _ (Nat.le_refl _), Nat.sub_zero]
  · intro j hj
    rw [size_extract' _ _ _ (Nat.le_refl _)] at hj
    rw [byt_extract _ _ _ _ (Nat.le_refl _) hj, Nat.zero_add]
/-- A card number is recovered from its groups. -/
theorem strip_grp (s : ByteArray) (hc : chkE s = 0) : IsStrip (grp s s.size) s 0 := by
  obtain ⟨s1, s2, hd, hl⟩ := chk_ok hc
  obtain ⟨hz, hb⟩ := grp_at s s.size (Nat.le_refl _)
  have hdg : ∀ j, j < s.size + (s.size - 1) / 4 → j % 5 ≠ 4 → isD (grp s s.size) j = true := fun j hj h5 => by
    have := hd (j - j / 5) (by omega)
    unfold dgAt at this
    unfold isD
    rw [hb j hj, if_neg h5]
    exact decide_eq_true this
  have hst : strp (grp s s.size) (grp s s.size).size = s := by rw [strp_grp s hd s.size (Nat.le_refl _), extract_all]
  refine .inr ⟨fun j hj => ?_, by rw [hst, hc], by rw [if_pos rfl, hst]⟩
  rw [hz] at hj
  by_cases h5 : j % 5 = 4
  · refine .inr ⟨.inl (by rw [hb j hj, if_pos h5]), by omega, hdg _ (by omega) (by omega), hdg _ (by omega) (by omega)⟩
  · exact .inl (hdg j hj h5)
theorem mask_head {s m : ByteArray} (h : IsMask s true m) (h12 : 12 ≤ s.size) : m.extract 0 6 = s.extract 0 6 := by
  obtain ⟨hz, hb⟩ := h
  apply byt_ext
  · rw [size_extract' _ _ _ (by omega), size_extract' _ _ _ (by omega)]
  · intro j hj
    rw [size_extract' _ _ _ (by omega)] at hj
    rw [byt_extract _ _ _ _ (by omega) hj, byt_extract _ _ _ _ (by omega) hj, Nat.zero_add, hb j (by omega)]
    unfold maskAt
    simp [show j < 6 by omega]
theorem mask_tail {s m : ByteArray} (h : IsMask s true m) (h12 : 12 ≤ s.size) : m.extract (s.size - 4) s.size = s.extract (s.size - 4) s.size := by
  obtain ⟨hz, hb⟩ := h
  apply byt_ext
  · rw [size_extract' _ _ _ (by omega), size_extract' _ _ _ (by omega)]
  · intro j hj
    rw [size_extract' _ _ _ (by omega)] at hj
    rw [byt_extract _ _ _ _ (by omega) hj, byt_extract _ _ _ _ (by omega) hj, hb _ (by omega)]
    unfold maskAt
    simp [show s.size ≤ s.size - 4 + j + 4 by omega]
theorem mask_mid {s m : ByteArray} (h : IsMask s true m) {k : Nat} (h6 : 6 ≤ k) (h4 : k + 4 < s.size) : byt m k = 42 := by
  obtain ⟨hz, hb⟩ := h
  rw [hb k (by omega)]
  unfold maskAt
  simp [show ¬ k < 6 by omega, show ¬ s.size ≤ k + 4 by omega]
end Go.Proofs.YtddnfjaogekmjaaDoor

/-
  MATHEMATICS of dates: a date's text read back, the date behind a date.
-/
import Derived.Test.YtaagifggeafgnaaDoorC15
namespace Go.Proofs.YtaagifggeafgnaaDoor
set_option linter.unusedVariables false
theorem fmt_size (y m d : Nat) : (fmtS y m d).size = 10 := by
  unfold fmtS
  simp only [ByteArray.size_append, decS_size]
  rfl
theorem fmt_lo (y m d k : Nat) (h : k < 4) : byt (fmtS y m d) k = byt (decS y 4) k := by
  unfold fmtS
  have z1 := decS_size y 4
  have z2 := decS_size m 2
  have z0 : (⟨#[45]⟩ : ByteArray).size = 1 := rfl
  rw [byt_left _ _ _ (by simp only [ByteArray.size_append]; omega), byt_left _ _ _ (by simp only [ByteArray.size_append]; omega), byt_left _ _ _ (by simp only [ByteArray.size_append]; omega), byt_left _ _ _ (by omega)]
theorem fmt_4 (y m d : Nat) : byt (fmtS y m d) 4 = 45 := by
  unfold fmtS
  have z1 := decS_size y 4
  have z2 := decS_size m 2
  have z0 : (⟨#[45]⟩ : ByteArray).size = 1 := rfl
  rw [byt_left _ _ _ (by simp only [ByteArray.size_append]; omega), byt_left _ _ _ (by simp only [ByteArray.size_append]; omega), byt_left _ _ _ (by simp only [ByteArray.size_append]; omega), byt_right _ _ _ (by omega), z1]
  rfl
theorem fmt_mid (y m d k : Nat) (h : k < 2) : byt (fmtS y m d) (5 + k) = byt (decS m 2) k := by
  unfold fmtS
  have z1 := decS_size y 4
  have z2 := decS_size m 2
  have z0 : (⟨#[45]⟩ : ByteArray).size = 1 := rfl
  rw [byt_left _ _ _ (by simp only [ByteArray.size_append]; omega), byt_left _ _ _ (by simp only [ByteArray.size_append]; omega), byt_right _ _ _ (by simp only [ByteArray.size_append]; omega), ByteArray.size_append, z1, z0]
  congr 1
  omega
theorem fmt_7 (y m d : Nat) : byt (fmtS y m d) 7 = 45 := by
  unfold fmtS
  have z1 := decS_size y 4
  have z2 := decS_size m 2
  have z0 : (⟨#[45]⟩ : ByteArray).size = 1 := rfl
  rw [byt_left _ _ _ (by simp only [ByteArray.size_append]; omega), byt_right _ _ _ (by simp only [ByteArray.size_append]; omega)]
  simp only [ByteArray.size_append, z1, z0, z2]
  rfl
theorem fmt_hi (y m d k : Nat) (h : k < 2) : byt (fmtS y m d) (8 + k) = byt (decS d 2) k := by
  unfold fmtS
  have z1 := decS_size y 4
  have z2 := decS_size m 2
  have z0 : (⟨#[45]⟩ : ByteArray).size = 1 := rfl
  rw [byt_right _ _ _ (by simp only [ByteArray.size_append]; omega)]
  simp only [ByteArray.size_append, z1, z0, z2]
  congr 1
  omega
theorem nv4 (s : ByteArray) (a : Nat) : nv s a 4 = (((byt s a - 48) * 10 + (byt s (a + 1) - 48)) * 10 + (byt s (a + 2) - 48)) * 10 + (byt s (a + 3) - 48) := by
  simp only [nv, Nat.add_zero]
  omega
theorem nv2 (s : ByteArray) (a : Nat) : nv s a 2 = (byt s a - 48) * 10 + (byt s (a + 1) - 48) := by
  simp only [nv, Nat.add_zero]
  omega
theorem dec4 (u : Nat) (h : u < 10000) : ((((byt (decS u 4) 0 - 48) * 10 + (byt (decS u 4) 1 - 48)) * 10 + (byt (decS u 4) 2 - 48)) * 10 + (byt (decS u 4) 3 - 48)) = (u : Int) := by
  rw [byt_decS u 4 0 (by omega), byt_decS u 4 1 (by omega), byt_decS u 4 2 (by omega), byt_decS u 4 3 (by omega)]
  simp only [Nat.reduceSub, Nat.reducePow]
  omega
theorem dec2 (u : Nat) (h : u < 100) : (byt (decS u 2) 0 - 48) * 10 + (byt (decS u 2) 1 - 48) = (u : Int) := by
  rw [byt_decS u 2 0 (by omega), byt_decS u 2 1 (by omega)]
  simp only [Nat.reduceSub, Nat.reducePow]
  omega
theorem fmt_y (y m d : Nat) (h : y < 10000) : pY (fmtS y m d) = y := by
  unfold pY
  rw [nv4, fmt_lo y m d 0 (by omega), fmt_lo y m d (0 + 1) (by omega), fmt_lo y m d (0 + 2) (by omega), fmt_lo y m d (0 + 3) (by omega)]
  exact dec4 y h
theorem fmt_m (y m d : Nat) (h : m < 100) : pM (fmtS y m d) = m := by
  unfold pM
  rw [nv2, show (5 : Nat) = 5 + 0 from rfl, fmt_mid y m d 0 (by omega), show 5 + 0 + 1 = 5 + 1 from rfl, fmt_mid y m d 1 (by omega)]
  exact dec2 m h
theorem fmt_d (y m d : Nat) (h : d < 100) : pD (fmtS y m d) = d := by
  unfold pD
  rw [nv2, show (8 : Nat) = 8 + 0 from rfl, fmt_hi y m d 0 (by omega), show 8 + 0 + 1 = 8 + 1 from rfl, fmt_hi y m d 1 (by omega)]
  exact dec2 d h
theorem dg_dec (u d k : Nat) (h : k < d) : 48 ≤ byt (decS u d) k ∧ byt (decS u d) k ≤ 57 := dgs_decS u d k (by rw [decS_size]; exact h)
theorem fmt_isT (y m d : Nat) : IsT (fmtS y m d) := by
  refine ⟨fmt_size y m d, fmt_4 y m d, fmt_7 y m d, fun k ⟨h1, h2, h3⟩ => ?_⟩
  unfold dgAt
  rcases (show k < 4 ∨ k = 5 ∨ k = 6 ∨ k = 8 ∨ k = 9 by omega) with h | rfl | rfl | rfl | rfl
  · rw [fmt_lo y m d k h]; exact dg_dec y 4 k h
  · rw [fmt_mid y m d 0 (by omega)]; exact dg_dec m 2 0 (by omega)
  · rw [fmt_mid y m d 1 (by omega)]; exact dg_dec m 2 1 (by omega)
  · rw [fmt_hi y m d 0 (by omega)]; exact dg_dec d 2 0 (by omega)
  · rw [fmt_hi y m d 1 (by omega)]; exact dg_dec d 2 1 (by omega)
theorem byt_dec4 (u : Nat) (a b c e : Int) (ha : 48 ≤ a ∧ a ≤ 57) (hb : 48 ≤ b ∧ b ≤ 57) (hc : 48 ≤ c ∧ c ≤ 57) (he : 48 ≤ e ∧ e ≤ 57) (h : (u : Int) = (((a - 48) * 10 + (b - 48)) * 10 + (c - 48)) * 10 + (e - 48)) :
    byt (decS u 4) 0 = a ∧ byt (decS u 4) 1 = b ∧ byt (decS u 4) 2 = c ∧ byt (decS u 4) 3 = e := by
  rw [byt_decS u 4 0 (by omega), byt_decS u 4 1 (by omega), byt_decS u 4 2 (by omega), byt_decS u 4 3 (by omega)]
  simp only [Nat.reduceSub, Nat.reducePow]
  refine ⟨?_, ?_, ?_, ?_⟩ <;> omega
theorem byt_dec2 (u : Nat) (a b : Int) (ha : 48 ≤ a ∧ a ≤ 57) (hb : 48 ≤ b ∧ b ≤ 57) (h : (u : Int) = (a - 48) * 10 + (b - 48)) : byt (decS u 2) 0 = a ∧ byt (decS u 2) 1 = b := by
  rw [byt_decS u 2 0 (by omega), byt_decS u 2 1 (by omega)]
  simp only [Nat.reduceSub, Nat.reducePow]
  refine ⟨?_, ?_⟩ <;> omega
theorem fmt_back {s : ByteArray} (h : IsT s) {y m d : Nat} (hy : (y : Int) = pY s) (hm : (m : Int) = pM s) (hd : (d : Int) = pD s) : fmtS y m d = s := by
  unfold pY at hy
  unfold pM at hm
  unfold pD at hd
  rw [nv4] at hy
  rw [nv2] at hm hd
  have D := fun k a b c => h.dg k ⟨a, b, c⟩
  unfold dgAt at D
  obtain ⟨y0, y1, y2, y3⟩ := byt_dec4 y _ _ _ _ (D 0 (by omega) (by omega) (by omega)) (D 1 (by omega) (by omega) (by omega)) (D 2 (by omega) (by omega) (by omega)) (D 3 (by omega) (by omega) (by omega)) hy
  obtain ⟨m0, m1⟩ := byt_dec2 m _ _ (D 5 (by omega) (by omega) (by omega)) (D 6 (by omega) (by omega) (by omega)) hm
  obtain ⟨d0, d1⟩ := byt_dec2 d _ _ (D 8 (by omega) (by omega) (by omega)) (D 9 (by omega) (by omega) (by omega)) hd
  refine byt_ext (by rw [fmt_size, h.size]) fun k hk => ?_
  rw [fmt_size] at hk
  rcases (show k = 0 ∨ k = 1 ∨ k = 2 ∨ k = 3 ∨ k = 4 ∨ k = 5 ∨ k = 6 ∨ k = 7 ∨ k = 8 ∨ k = 9 by omega) with rfl | rfl | rfl | rfl | rfl | rfl | rfl | rfl | rfl | rfl
  · rw [fmt_lo _ _ _ _ (by omega)]; exact y0
  · rw [fmt_lo _ _ _ _ (by omega)]; exact y1
  · rw [fmt_lo _ _ _ _ (by omega)]; exact y2
  · rw [fmt_lo _ _ _ _ (by omega)]; exact y3
  · rw [fmt_4, h.b4]
  · rw [fmt_mid _ _ _ 0 (by omega)]; exact m0
  · rw [fmt_mid _ _ _ 1 (by omega)]; exact m1
  · rw [fmt_7, h.b7]
  · rw [fmt_hi _ _ _ 0 (by omega)]; exact d0
  · rw [fmt_hi _ _ _ 1 (by omega)]; exact d1
/-- The date behind a date. -/
theorem isD_next {n y m d p q r : Nat} (h : IsD n y m d) (h' : IsD (n + 1) p q r) : (p = y ∧ q = m ∧ r = d + 1) ∨ (p = y ∧ q = m + 1 ∧ r = 1 ∧ 28 ≤ d) ∨ (p = y + 1 ∧ q = 1 ∧ r = 1 ∧ m = 12 ∧ d = 31) := by
  have hy := h.y0
  have he := h.e
  have hml := ml_bd y m
  by_cases h1 : d + 1 ≤ ml y m
  · have hD : IsD (n + 1) y m (d + 1) := ⟨hy, h.m0, h.m1, by omega, h1, by omega⟩
    obtain ⟨a, b, c⟩ := h'.uniq hD
    exact .inl ⟨a, b, c⟩
  · have hd : d = ml y m := by have := h.d1; omega
    by_cases h2 : m + 1 ≤ 12
    · have hS : mb y m = mb y (m - 1) + ml y m := by
        have := h.m0
        obtain ⟨k, rfl⟩ : ∃ k, m = k + 1 := ⟨m - 1, by omega⟩
        rw [Nat.add_sub_cancel, mb]
      have hb2 := ml_bd y (m + 1)
      have hD : IsD (n + 1) y (m + 1) 1 := ⟨hy, by omega, h2, by omega, by omega, by rw [Nat.add_sub_cancel]; omega⟩
      obtain ⟨a, b, c⟩ := h'.uniq hD
      exact .inr (.inl ⟨a, b, c, by omega⟩)
    · obtain rfl : m = 12 := by have := h.m1; omega
      have h31 : ml y 12 = 31 := by simp [ml, mtab]
      have hS : mb y 12 = mb y 11 + ml y 12 := rfl
      rw [mb_12] at hS
      have hB : bef (y + 1 - 1970) = bef (y - 1970) + yl y := by
        rw [show y + 1 - 1970 = (y - 1970) + 1 by omega, bef, show 1970 + (y - 1970) = y by omega]
      have hb2 := ml_bd (y + 1) 1
      have hD : IsD (n + 1) (y + 1) 1 1 := ⟨by omega, by omega, by omega, by omega, by omega, by
        have hz : mb (y + 1) (1 - 1) = 0 := rfl
        rw [hz, hB]
        simp only [Nat.reduceSub] at he
        omega⟩
      obtain ⟨a, b, c⟩ := h'.uniq hD
      exact .inr (.inr ⟨a, b, c, rfl, by omega⟩)
end Go.Proofs.YtaagifggeafgnaaDoor

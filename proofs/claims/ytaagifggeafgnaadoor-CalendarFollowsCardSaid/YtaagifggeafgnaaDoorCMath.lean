/-
  MATHEMATICS of dates: leap years, lengths of months and years, the days before a year and a month.
-/
import Derived.WalkKit
namespace Go.Proofs.YtaagifggeafgnaaDoor
set_option linter.unusedVariables false
def leapB (y : Nat) : Bool := (y % 4 == 0 && y % 100 != 0) || y % 400 == 0
theorem leapB_iff (y : Nat) : leapB y = true ↔ (y % 4 = 0 ∧ y % 100 ≠ 0) ∨ y % 400 = 0 := by simp [leapB]
def yl (y : Nat) : Nat := if leapB y then 366 else 365
theorem yl_bd (y : Nat) : 365 ≤ yl y ∧ yl y ≤ 366 := by unfold yl; split <;> omega
def mtab : List Nat := [31, 28, 31, 30, 31, 30, 31, 31, 30, 31, 30, 31]
def ml (y m : Nat) : Nat := if m = 2 ∧ leapB y = true then 29 else mtab.getD (m - 1) 31
theorem ml_bd (y m : Nat) : 28 ≤ ml y m ∧ ml y m ≤ 31 := by
  unfold ml
  split
  · omega
  · rcases Nat.lt_or_ge (m - 1) 12 with h | h
    · have : ∀ k, k < 12 → 28 ≤ mtab.getD k 31 ∧ mtab.getD k 31 ≤ 31 := by decide
      exact this _ h
    · rw [List.getD_eq_getElem?_getD, List.getElem?_eq_none (by simpa [mtab] using h)]
      simp
/-- The days before the year 1970 + k. -/
def bef : Nat → Nat
  | 0 => 0
  | k + 1 => bef k + yl (1970 + k)
/-- The days of a year before its month k + 1. -/
def mb (y : Nat) : Nat → Nat
  | 0 => 0
  | k + 1 => mb y k + ml y (k + 1)
theorem bef_mono {a b : Nat} (h : a ≤ b) : bef a ≤ bef b := by
  induction b with
  | zero => obtain rfl : a = 0 := by omega
            exact Nat.le_refl _
  | succ b ih =>
    rcases Nat.lt_or_ge b a with h1 | h1
    · obtain rfl : a = b + 1 := by omega
      exact Nat.le_refl _
    · have := ih h1; rw [bef]; omega
theorem mb_mono (y : Nat) {a b : Nat} (h : a ≤ b) : mb y a ≤ mb y b := by
  induction b with
  | zero => obtain rfl : a = 0 := by omega
            exact Nat.le_refl _
  | succ b ih =>
    rcases Nat.lt_or_ge b a with h1 | h1
    · obtain rfl : a = b + 1 := by omega
      exact Nat.le_refl _
    · have := ih h1; rw [mb]; omega
theorem mb_12 (y : Nat) : mb y 12 = yl y := by
  simp only [mb, ml, mtab, yl]
  cases leapB y <;> simp
theorem bef_ge (k : Nat) : 365 * k ≤ bef k ∧ bef k ≤ 366 * k := by
  induction k with
  | zero => simp [bef]
  | succ k ih => have := yl_bd (1970 + k); rw [bef]; omega
theorem bef_274 : bef 274 = 100076 := by decide +kernel
/-- Year, month and day of a date. -/
structure IsD (n y m d : Nat) : Prop where
  y0 : 1970 ≤ y
  m0 : 1 ≤ m
  m1 : m ≤ 12
  d0 : 1 ≤ d
  d1 : d ≤ ml y m
  e : bef (y - 1970) + mb y (m - 1) + d = n + 1
theorem IsD.low {n y m d : Nat} (h : IsD n y m d) : bef (y - 1970) + mb y (m - 1) ≤ n := by have := h.e; have := h.d0; omega
theorem IsD.high {n y m d : Nat} (h : IsD n y m d) : n < bef (y - 1970) + mb y m := by
  have h1 := h.e; have h2 := h.d1; have := h.m0
  obtain ⟨k, rfl⟩ : ∃ k, m = k + 1 := ⟨m - 1, by omega⟩
  rw [Nat.add_sub_cancel] at h1
  rw [mb]
  omega
theorem IsD.year {n y m d : Nat} (h : IsD n y m d) : n < bef (y - 1970 + 1) := by
  have h1 := h.high
  have h2 := mb_mono y h.m1
  rw [mb_12] at h2
  rw [bef, show 1970 + (y - 1970) = y by have := h.y0; omega]
  omega
theorem IsD.uniq {n y m d y' m' d' : Nat} (h : IsD n y m d) (h' : IsD n y' m' d') : y = y' ∧ m = m' ∧ d = d' := by
  have a1 := h.low; have a2 := h.year; have b1 := h'.low; have b2 := h'.year; have a0 := h.y0; have b0 := h'.y0
  obtain rfl : y = y' := by
    rcases Nat.lt_trichotomy y y' with hlt | heq | hgt
    · have := bef_mono (show y - 1970 + 1 ≤ y' - 1970 by omega); omega
    · exact heq
    · have := bef_mono (show y' - 1970 + 1 ≤ y - 1970 by omega); omega
  have a3 := h.high; have b3 := h'.high; have a4 := h.m0; have b4 := h'.m0
  obtain rfl : m = m' := by
    rcases Nat.lt_trichotomy m m' with hlt | heq | hgt
    · have := mb_mono y (show m ≤ m' - 1 by omega); omega
    · exact heq
    · have := mb_mono y (show m' ≤ m - 1 by omega); omega
  have := h.e; have := h'.e
  exact ⟨rfl, rfl, by omega⟩
theorem find_mono (f : Nat → Nat) (h0 : f 0 = 0) (n : Nat) : ∀ K, n < f K → ∃ k, k < K ∧ f k ≤ n ∧ n < f (k + 1) := by
  intro K
  induction K with
  | zero => intro h; omega
  | succ K ih =>
    intro h
    rcases Nat.lt_or_ge n (f K) with h1 | h1
    · obtain ⟨k, a, b, c⟩ := ih h1; exact ⟨k, by omega, b, c⟩
    · exact ⟨K, by omega, h1, h⟩
theorem isD_ex (n : Nat) (hn : n < 100076) : ∃ y m d, IsD n y m d ∧ y ≤ 2243 := by
  obtain ⟨k, k1, k2, k3⟩ := find_mono bef rfl n 274 (by rw [bef_274]; exact hn)
  obtain ⟨j, j1, j2, j3⟩ := find_mono (mb (1970 + k)) rfl (n - bef k) 12 (by rw [mb_12]; rw [bef] at k3; omega)
  refine ⟨1970 + k, j + 1, n - bef k - mb (1970 + k) j + 1, ⟨by omega, by omega, by omega, by omega, ?_, ?_⟩, by omega⟩
  · rw [mb] at j3; omega
  · rw [Nat.add_sub_cancel_left, Nat.add_sub_cancel]; omega
theorem IsD.y1 {n y m d : Nat} (h : IsD n y m d) (hn : n < 100076) : y ≤ 2243 := by
  obtain ⟨y', m', d', h1, h2⟩ := isD_ex n hn
  rw [(h.uniq h1).1]; exact h2
/-- The number of a date that is one. -/
def dnum (y m d : Nat) : Nat := bef (y - 1970) + mb y (m - 1) + d - 1
theorem isD_dnum {y m d : Nat} (y0 : 1970 ≤ y) (m0 : 1 ≤ m) (m1 : m ≤ 12) (d0 : 1 ≤ d) (d1 : d ≤ ml y m) : IsD (dnum y m d) y m d := ⟨y0, m0, m1, d0, d1, by unfold dnum; omega⟩
theorem IsD.num {n y m d : Nat} (h : IsD n y m d) : dnum y m d = n := by have := h.e; unfold dnum; omega
theorem dnum_bd {y m d : Nat} (y0 : 1970 ≤ y) (y1 : y ≤ 2243) (m0 : 1 ≤ m) (m1 : m ≤ 12) (d0 : 1 ≤ d) (d1 : d ≤ ml y m) : dnum y m d < 100076 := by
  have h := (isD_dnum y0 m0 m1 d0 d1).year
  have := bef_mono (show y - 1970 + 1 ≤ 274 by omega)
  rw [bef_274] at this
  omega
end Go.Proofs.YtaagifggeafgnaaDoor

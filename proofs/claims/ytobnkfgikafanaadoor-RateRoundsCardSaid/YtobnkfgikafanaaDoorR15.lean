/-
  MATHEMATICS of rates: what rounding changes; the conversion back.
-/
import Derived.Test.YtobnkfgikafanaaDoorR14
namespace Go.Proofs.YtobnkfgikafanaaDoor
open Go.RowKit
set_option linter.unusedVariables false
set_option linter.unusedSimpArgs false
theorem rnd (p d : Nat) (hd : 1 ≤ d) (mode : Int) (m0 : 1 ≤ mode) (m1 : mode ≤ 4) : ∃ X D : Nat, X = p / d + b2n (upB (p / d) (p % d) d mode) ∧ X * d = D ∧
    (mode = 1 → D ≤ p ∧ p < D + d) ∧ (mode = 2 → p ≤ D ∧ D < p + d) ∧ (mode = 3 ∨ mode = 4 → 2 * D ≤ 2 * p + d ∧ 2 * p ≤ 2 * D + d) ∧ X ≤ p + 1 := by
  have h1 : d * (p / d) + p % d = p := Nat.div_add_mod p d
  have h2 : p % d < d := Nat.mod_lt _ (by omega)
  have h3 : p / d ≤ p := Nat.div_le_self _ _
  rw [Nat.mul_comm] at h1
  generalize p / d = q at *
  generalize p % d = r at *
  cases hb : upB q r d mode
  · refine ⟨q, q * d, rfl, rfl, ?_, ?_, ?_, by omega⟩
    · intro _; omega
    · intro h
      subst h
      have : ¬ 0 < r := by simpa [upB] using hb
      omega
    · intro h
      rcases h with h | h
      · subst h
        have : ¬ d ≤ 2 * r := by simpa [upB] using hb
        omega
      · subst h
        have : ¬ d < 2 * r := by
          intro hc
          simp [upB, hc] at hb
        omega
  · refine ⟨q + 1, q * d + d, rfl, by rw [Nat.add_mul, Nat.one_mul], ?_, ?_, ?_, by omega⟩
    · intro h
      subst h
      simp [upB] at hb
    · intro h
      subst h
      have : 0 < r := by simpa [upB] using hb
      omega
    · intro h
      rcases h with h | h
      · subst h
        have : d ≤ 2 * r := by simpa [upB] using hb
        omega
      · subst h
        have : d ≤ 2 * r := by
          rcases Nat.lt_or_ge (2 * r) d with hc | hc
          · simp [upB, show ¬ d < 2 * r by omega, show ¬ 2 * r = d by omega] at hb
          · exact hc
        omega
/-- An exact conversion is undone. -/
theorem back (a n d X : Nat) (hn : 1 ≤ n) (hd : 1 ≤ d) (h : X * d = a * n) : X * rdN d n / rdD d n = a ∧ X * rdN d n % rdD d n = 0 := by
  have hp := rdD_pos (a := d) (b := n) hd hn
  have h1 : X * rdN d n = a * rdD d n := by
    have hg := gcd_pos (b := n) hd
    have e1 : rdN d n * Nat.gcd d n = d := Nat.div_mul_cancel (Nat.gcd_dvd_left d n)
    have e2 : rdD d n * Nat.gcd d n = n := Nat.div_mul_cancel (Nat.gcd_dvd_right d n)
    apply Nat.eq_of_mul_eq_mul_right (show 0 < Nat.gcd d n by omega)
    rw [Nat.mul_assoc, e1, Nat.mul_assoc, e2, h]
  rw [h1]
  exact ⟨Nat.mul_div_cancel _ (by omega), Nat.mul_mod_left _ _⟩
theorem up_zero (q d : Nat) (mode : Int) (hd : 1 ≤ d) : upB q 0 d mode = false := by
  unfold upB
  by_cases h2 : mode = 2
  · simp [h2]
  · by_cases h3 : mode = 3
    · simp [h3]; omega
    · by_cases h4 : mode = 4
      · simp [h4]; omega
      · simp [h2, h3, h4]
theorem scN_back (a n d X : Nat) (mode : Int) (hn : 1 ≤ n) (hd : 1 ≤ d) (h : X * d = a * n) : scN X (rdN d n) (rdD d n) mode = a := by
  obtain ⟨h1, h2⟩ := back a n d X hn hd h
  unfold scN
  rw [h1, h2, up_zero _ _ _ (rdD_pos hd hn)]
  rfl
def ab (x : Int) : Int := if x < 0 then -x else x
theorem ab_pos {x : Int} (h : 0 ≤ x) : ab x = x := by unfold ab; rw [if_neg (by omega)]
theorem ab_neg {x : Int} (h : x ≤ 0) : ab x = -x := by
  unfold ab
  by_cases h1 : x < 0
  · rw [if_pos h1]
  · rw [if_neg h1]; omega
theorem abs_any (x : Int) (h0 : -4611686018427387904 ≤ x) (h1 : x ≤ 4611686018427387904) {y : Int} (HY : Hid (ab x = y)) (w : World) : Calls Tryd.prog 27 #[.int .i64 x] w fun e w' => e = .returned (.int .i64 y) ∧ Pushed w w' := by
  by_cases h : x < 0
  · have HE : Hid (-x = y) := Lib.hid (by rw [← HY.out, ab_neg (by omega)])
    clear HY
    go_enter Tryd.func27, Tryd.ntmps27
    go_wp2
    go_ret
    exact ⟨ret_int HE.out, (by repeat (first | with_reducible exact Pushed.refl _ | with_reducible assumption | with_reducible refine Pushed.push ?_ _ | with_reducible refine Pushed.alloc ?_ _ | with_reducible refine Pushed.drewN ?_ _ | with_reducible refine Pushed.drew ?_))⟩
  · have HE : Hid (x = y) := Lib.hid (by rw [← HY.out, ab_pos (by omega)])
    clear HY
    go_enter Tryd.func27, Tryd.ntmps27
    go_wp2
    go_ret
    exact ⟨ret_int HE.out, (by repeat (first | with_reducible exact Pushed.refl _ | with_reducible assumption | with_reducible refine Pushed.push ?_ _ | with_reducible refine Pushed.alloc ?_ _ | with_reducible refine Pushed.drewN ?_ _ | with_reducible refine Pushed.drew ?_))⟩
theorem mchk_small {m : Int} {c : ByteArray} (hc : curP c) (h0 : -4503599627370496 ≤ m) (h1 : m ≤ 4503599627370496) : mchkR m c = 0 := by rw [mchkR, if_pos hc, if_pos ⟨h0, h1⟩]
/-- What the law of rounding asks of a conversion. -/
structure Cv (m d mode y E Q : Int) : Prop where
  y0 : -2199023255552 ≤ y
  y1 : y ≤ 2199023255552
  e0 : -1099511627776 ≤ E ∧ E ≤ 1099511627776
  q0 : -4398046511104 ≤ Q ∧ Q ≤ 4398046511104
  down : mode = 1 → ab (Q - E) < d ∧ ab Q ≤ ab E
  up : mode = 2 → ab (Q - E) < d ∧ ab E ≤ ab Q
  half : mode ≠ 1 → mode ≠ 2 → 2 * ab (Q - E) ≤ d
theorem chk_back {c t : ByteArray} {n d : Nat} (h : curR c t) (n0 : 1 ≤ n) (d0 : 1 ≤ d) (n1 : n ≤ 1048576) (d1 : d ≤ 1048576) : chkR t c (rdN d n) (rdD d n) = 0 := by
  have h1 := rdN_pos (b := n) d0
  have h2 := rdD_pos d0 n0
  have h3 := rdN_le d n
  have h4 := rdD_le d n
  rw [chkR, if_pos ⟨h.2.1, h.1, fun e => h.2.2 e.symm⟩, if_pos ⟨by omega, by omega, by omega, by omega⟩]
theorem conv_math (m : Int) (c t : ByteArray) (n d : Nat) (mode : Int) (hc : c.size ≤ 1000) (ht : t.size ≤ 1000) (hr : curR c t) (n0 : 1 ≤ n) (d0 : 1 ≤ d) (n1 : n ≤ 1048576) (d1 : d ≤ 1048576) (a0 : -1048576 ≤ m) (a1 : m ≤ 1048576) (m0 : 1 ≤ mode) (m1 : mode ≤ 4) :
    ∃ y E Q : Int, m * (n : Int) = E ∧ y * (d : Int) = Q ∧ Cv m d mode y E Q ∧
      (∀ w, Calls Tryd.prog 17 #[.agg #[.int .i64 m, .string c], .agg #[.string c, .string t, .int .i64 (n : Int), .int .i64 (d : Int)], .int .i64 mode] w fun x w' => x = .returned (.tuple #[.agg #[.int .i64 y, .string t], .int .i64 0]) ∧ Pushed w w') ∧
      (Q - E = 0 → ∀ w, Calls Tryd.prog 17 #[.agg #[.int .i64 y, .string t], .agg #[.string t, .string c, .int .i64 (rdN d n : Int), .int .i64 (rdD d n : Int)], .int .i64 mode] w fun x w' => x = .returned (.tuple #[.agg #[.int .i64 m, .string c], .int .i64 0]) ∧ Pushed w w') := by
  have hk : chkR c t n d = 0 := by rw [chkR, if_pos hr, if_pos ⟨by omega, by omega, by omega, by omega⟩]
  have hkb := chk_back hr n0 d0 n1 d1
  have z1 := rdN_pos (b := n) d0
  have z2 := rdD_pos d0 n0
  have z3 := rdN_le d n
  have z4 := rdD_le d n
  obtain ⟨a, ha⟩ : ∃ a : Nat, m = a ∨ m = -(a : Int) ∧ 1 ≤ a := by
    by_cases h : 0 ≤ m
    · exact ⟨m.toNat, .inl (by omega)⟩
    · exact ⟨(-m).toNat, .inr ⟨by omega, by omega⟩⟩
  have hal : a ≤ 1048576 := by omega
  have hp : a * n ≤ 1099511627776 := Nat.le_trans (Nat.mul_le_mul hal n1) (by decide)
  obtain ⟨X, D, hX, hD, k1, k2, k3, hXl⟩ := rnd (a * n) d d0 mode m0 m1
  have hq : a * n / d ≤ a * n := Nat.div_le_self _ _
  have hsc : scN a n d mode = X := hX.symm
  have hDl : D ≤ 4398046511104 := by
    by_cases h1 : mode = 1
    · have := k1 h1; omega
    · by_cases h2 : mode = 2
      · have := k2 h2; omega
      · have := k3 (by omega); omega
  have hXa : X * rdN d n ≤ 4611686018427387904 := Nat.le_trans (Nat.mul_le_mul (show X ≤ 1099511627777 by omega) (show rdN d n ≤ 1048576 by omega)) (by decide)
  rcases ha with rfl | ⟨rfl, ha1⟩
  · refine ⟨(X : Int), ((a * n : Nat) : Int), (D : Int), by push_cast; rfl, by rw [← hD]; push_cast; rfl, ⟨by omega, by omega, by omega, by omega, fun h => ?_, fun h => ?_, fun h h' => ?_⟩, fun w => ?_, fun hz w => ?_⟩
    · have := k1 h
      rw [ab_pos (x := (D : Int)) (by omega), ab_pos (x := ((a * n : Nat) : Int)) (by omega), ab_neg (by omega)]
      omega
    · have := k2 h
      rw [ab_pos (x := (D : Int)) (by omega), ab_pos (x := ((a * n : Nat) : Int)) (by omega), ab_pos (by omega)]
      omega
    · have := k3 (by omega)
      by_cases hs : 0 ≤ (D : Int) - ((a * n : Nat) : Int)
      · rw [ab_pos hs]; omega
      · rw [ab_neg (by omega)]; omega
    · exact conv_ok _ c t _ _ mode (by omega) (by omega) (Lib.hid (mchk_small hr.1 (by omega) (by omega))) (Lib.hid hk) (Lib.hid fun w => by
        have := scale_pos a n d mode c (by omega) hr.1 (by omega) n0 (by omega) d0 (by omega) (by omega) (by omega) m0 m1 w
        rw [hsc] at this
        exact this) w
    · have hXd : X * d = a * n := by omega
      have hb := scN_back a n d X mode n0 d0 hXd
      exact conv_ok _ t c _ _ mode (by omega) (by omega) (Lib.hid (mchk_small hr.2.1 (by omega) (by omega))) (Lib.hid hkb) (Lib.hid fun w => by
        have := scale_pos X (rdN d n) (rdD d n) mode t (by omega) hr.2.1 (by omega) z1 (by omega) z2 (by omega) hXa (by rw [(back a n d X n0 d0 hXd).1]; omega) m0 m1 w
        rw [hb] at this
        exact this) w
  · refine ⟨-(X : Int), -((a * n : Nat) : Int), -(D : Int), by rw [Int.neg_mul]; push_cast; rfl, by rw [Int.neg_mul, ← hD]; push_cast; rfl, ⟨by omega, by omega, by omega, by omega, fun h => ?_, fun h => ?_, fun h h' => ?_⟩, fun w => ?_, fun hz w => ?_⟩
    · have := k1 h
      rw [ab_neg (x := -(D : Int)) (by omega), ab_neg (x := -((a * n : Nat) : Int)) (by omega), ab_pos (by omega)]
      omega
    · have := k2 h
      rw [ab_neg (x := -(D : Int)) (by omega), ab_neg (x := -((a * n : Nat) : Int)) (by omega), ab_neg (by omega)]
      omega
    · have := k3 (by omega)
      by_cases hs : 0 ≤ -(D : Int) - -((a * n : Nat) : Int)
      · rw [ab_pos hs]; omega
      · rw [ab_neg (by omega)]; omega
    · exact conv_ok _ c t _ _ mode (by omega) (by omega) (Lib.hid (mchk_small hr.1 (by omega) (by omega))) (Lib.hid hk) (Lib.hid fun w => by
        have := scale_neg a n d mode c (by omega) hr.1 ha1 (by omega) n0 (by omega) d0 (by omega) (by omega) (by omega) m0 m1 w
        rw [hsc] at this
        exact this) w
    · have hXd : X * d = a * n := by omega
      have hb := scN_back a n d X mode n0 d0 hXd
      have hX1 : 1 ≤ X := by
        rcases Nat.eq_zero_or_pos X with h0 | h0
        · subst h0
          have : 1 ≤ a * n := Nat.mul_pos ha1 n0
          omega
        · exact h0
      exact conv_ok _ t c _ _ mode (by omega) (by omega) (Lib.hid (mchk_small hr.2.1 (by omega) (by omega))) (Lib.hid hkb) (Lib.hid fun w => by
        have := scale_neg X (rdN d n) (rdD d n) mode t (by omega) hr.2.1 hX1 (by omega) z1 (by omega) z2 (by omega) hXa (by rw [(back a n d X n0 d0 hXd).1]; omega) m0 m1 w
        rw [hb] at this
        exact this) w
end Go.Proofs.YtobnkfgikafanaaDoor

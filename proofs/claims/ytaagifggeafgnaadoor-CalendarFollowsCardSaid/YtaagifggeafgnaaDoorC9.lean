/-
  CONTRACTS of dates: AddMonths, inside the years.
-/
import Derived.Test.YtaagifggeafgnaaDoorC8
namespace Go.Proofs.YtaagifggeafgnaaDoor
open Go.RowKit Go.Lib
set_option linter.unusedVariables false
set_option linter.unusedSimpArgs false
/-- Of's answer where year and month are such. -/
theorem of_in (y m d : Nat) (y0 : 1970 ≤ y) (y1 : y ≤ 2243) (m0 : 1 ≤ m) (m1 : m ≤ 12) (d0 : 1 ≤ d) (d1 : d ≤ ml y m) : ∃ a e : Int,
    (∀ w, Mth w → Calls Tryd.prog 9 #[.int .i64 (y : Int), .int .i64 (m : Int), .int .i64 (d : Int)] w fun x w' => x = .returned (.tuple #[.int .i64 a, .int .i64 e]) ∧ w = w') ∧
    (∀ w, Calls Tryd.prog 10 #[.int .i64 (y : Int), .int .i64 (m : Int), .int .i64 (d : Int)] w fun x w' => x = .returned (.tuple #[.int .i64 a, .int .i64 e]) ∧ Below w.heap.size w w') := by
  by_cases hb : dnum y m d ≤ 99999
  · exact ⟨_, _, fun w hM => of_ok y m d y0 y1 m0 m1 d0 d1 hb w hM, fun w => rof_ok y m d y0 y1 m0 m1 d0 d1 hb w⟩
  · exact ⟨_, _, fun w hM => of_big y m d y0 y1 m0 m1 d0 d1 hb w hM, fun w => rof_big y m d y0 y1 m0 m1 d0 d1 hb w⟩
theorem of_tot (y m d : Int) : ∃ a e : Int,
    (∀ w, Mth w → Calls Tryd.prog 9 #[.int .i64 y, .int .i64 m, .int .i64 d] w fun x w' => x = .returned (.tuple #[.int .i64 a, .int .i64 e]) ∧ w = w') ∧
    (∀ w, Calls Tryd.prog 10 #[.int .i64 y, .int .i64 m, .int .i64 d] w fun x w' => x = .returned (.tuple #[.int .i64 a, .int .i64 e]) ∧ Below w.heap.size w w') := by
  by_cases h : okD y m d
  · obtain ⟨g0, g1, g2, g3, g4, g5⟩ := h
    obtain ⟨y, rfl⟩ := Int.eq_ofNat_of_zero_le (show 0 ≤ y by omega)
    obtain ⟨m, rfl⟩ := Int.eq_ofNat_of_zero_le (show 0 ≤ m by omega)
    obtain ⟨d, rfl⟩ := Int.eq_ofNat_of_zero_le (show 0 ≤ d by omega)
    rw [Int.toNat_natCast, Int.toNat_natCast] at g5
    exact of_in y m d (by omega) (by omega) (by omega) (by omega) (by omega) (by omega)
  · exact ⟨_, _, fun w hM => of_bad y m d h w hM, fun w => rof_bad y m d h w⟩
set_option maxRecDepth 20000 in
set_option maxHeartbeats 1600000 in
theorem addm_in {n y m d : Nat} (h : IsD n y m d) (hn : n ≤ 99999) (k : Int) (k0 : -10000 ≤ k) (k1 : k ≤ 10000) (Y Z D : Nat) (hQ : (y : Int) * 12 + m - 1 + k = ((Y * 12 + Z : Nat) : Int)) (hY0 : 1970 ≤ Y) (hY1 : Y ≤ 2243) (hZ : Z < 12) (hD : D = min d (ml Y (Z + 1))) (w : World) (hM : Mth w)
    {a e : Int} (hO : (Calls Tryd.prog 9 #[.int .i64 (Y : Int), .int .i64 ((Z : Int) + 1), .int .i64 (D : Int)] w fun x w' => x = .returned (.tuple #[.int .i64 a, .int .i64 e]) ∧ w = w')) :
    Calls Tryd.prog 21 #[.int .i64 (n : Int), .int .i64 k] w fun x w' => x = .returned (.tuple #[.int .i64 a, .int .i64 e]) ∧ w = w' := by
  have hy0 := h.y0
  have hy1 := h.y1 (by omega)
  have hm0 := h.m0
  have hm1 := h.m1
  have hd0 := h.d0
  have hd1 := h.d1
  have hml0 := ml_bd y m
  have hdt : Hid (isDt (n : Int) = true) := Lib.hid (isDt_yes (by omega) (by omega))
  have S1 := Lib.hid (split_ok h hn w hM)
  have HL : Hid (Calls Tryd.prog 31 #[.int .i64 (Y : Int), .int .i64 ((Z : Int) + 1)] w fun e w' => e = .returned (.int .i64 (ml Y (Z + 1) : Int)) ∧ w = w') := Lib.hid (ml_any Y (Z + 1) (by omega) (by omega) (by omega) w hM)
  have hml := ml_bd Y (Z + 1)
  have HO := Lib.hid hO
  clear hO h
  generalize ml y m = L0 at *
  generalize ml Y (Z + 1) = L at *
  have q1 : ((Y * 12 + Z : Nat) : Int) / 12 = (Y : Int) := by omega
  have q2 : ((Y * 12 + Z : Nat) : Int) % 12 = (Z : Int) := by omega
  have q3 : ((Y * 12 + Z : Nat) : Int) ≤ 26927 := by omega
  have q4 : (23640 : Int) ≤ ((Y * 12 + Z : Nat) : Int) := by omega
  have q5 : (1970 : Int) ≤ (Y : Int) := by omega
  have q6 : (Y : Int) ≤ 2243 := by omega
  generalize (Y * 12 + Z) = Q at *
  by_cases hDL : L < d
  · obtain rfl : D = L := by omega
    have hmin : min (d : Int) (D : Int) = (D : Int) := by omega
    clear hD
    go_enter Tryd.func21, Tryd.ntmps21
    go_wp2_with fail
    refine (isDate_any _ _ hdt).mono ?_
    rintro e w' ⟨rfl, rfl⟩
    go_wp2_with fail
    refine S1.out.mono ?_
    rintro e w1 ⟨rfl, rfl⟩
    go_wp2_with fail
    refine HL.out.mono ?_
    rintro e w2 ⟨rfl, rfl⟩
    go_wp2_with fail
    with_reducible refine HO.out.mono ?_
    rintro e w4 ⟨rfl, rfl⟩
    go_wp2
    go_ret2
    exact ⟨rfl, rfl⟩
  · obtain rfl : D = d := by omega
    have hmin : min (D : Int) (L : Int) = (D : Int) := by omega
    clear hD
    go_enter Tryd.func21, Tryd.ntmps21
    go_wp2_with fail
    refine (isDate_any _ _ hdt).mono ?_
    rintro e w' ⟨rfl, rfl⟩
    go_wp2_with fail
    refine S1.out.mono ?_
    rintro e w1 ⟨rfl, rfl⟩
    go_wp2_with fail
    refine HL.out.mono ?_
    rintro e w2 ⟨rfl, rfl⟩
    go_wp2_with fail
    with_reducible refine HO.out.mono ?_
    rintro e w4 ⟨rfl, rfl⟩
    go_wp2
    go_ret2
    exact ⟨rfl, rfl⟩
set_option maxRecDepth 20000 in
set_option maxHeartbeats 1600000 in
theorem raddm_in {n y m d : Nat} (h : IsD n y m d) (hn : n ≤ 99999) (k : Int) (k0 : -10000 ≤ k) (k1 : k ≤ 10000) (Y Z D : Nat) (hQ : (y : Int) * 12 + m - 1 + k = ((Y * 12 + Z : Nat) : Int)) (hY0 : 1970 ≤ Y) (hY1 : Y ≤ 2243) (hZ : Z < 12) (hD : D = min d (ml Y (Z + 1))) (w : World)
    {a e : Int} (hO : (∀ w, Calls Tryd.prog 10 #[.int .i64 (Y : Int), .int .i64 ((Z : Int) + 1), .int .i64 (D : Int)] w fun x w' => x = .returned (.tuple #[.int .i64 a, .int .i64 e]) ∧ Below w.heap.size w w')) :
    Calls Tryd.prog 22 #[.int .i64 (n : Int), .int .i64 k] w fun x w' => x = .returned (.tuple #[.int .i64 a, .int .i64 e]) ∧ Below w.heap.size w w' := by
  have hy0 := h.y0
  have hy1 := h.y1 (by omega)
  have hm0 := h.m0
  have hm1 := h.m1
  have hd0 := h.d0
  have hd1 := h.d1
  have hml0 := ml_bd y m
  have hdt : Hid (isDt (n : Int) = true) := Lib.hid (isDt_yes (by omega) (by omega))
  have S1 := Lib.hid (rsplit_ok h hn w)
  have HL : Hid (∀ w, Calls Tryd.prog 33 #[.int .i64 (Y : Int), .int .i64 ((Z : Int) + 1)] w fun e w' => e = .returned (.int .i64 (ml Y (Z + 1) : Int)) ∧ Below w.heap.size w w') := Lib.hid (fun w => days_any Y (Z + 1) (by omega) (by omega) (by omega) w)
  have hml := ml_bd Y (Z + 1)
  have HO := Lib.hid hO
  clear hO h
  generalize ml y m = L0 at *
  generalize ml Y (Z + 1) = L at *
  have q1 : ((Y * 12 + Z : Nat) : Int) / 12 = (Y : Int) := by omega
  have q2 : ((Y * 12 + Z : Nat) : Int) % 12 = (Z : Int) := by omega
  have q3 : ((Y * 12 + Z : Nat) : Int) ≤ 26927 := by omega
  have q4 : (23640 : Int) ≤ ((Y * 12 + Z : Nat) : Int) := by omega
  have q5 : (1970 : Int) ≤ (Y : Int) := by omega
  have q6 : (Y : Int) ≤ 2243 := by omega
  generalize (Y * 12 + Z) = Q at *
  by_cases hDL : L < d
  · obtain rfl : D = L := by omega
    have hmin : min (d : Int) (D : Int) = (D : Int) := by omega
    clear hD
    go_enter Tryd.func22, Tryd.ntmps22
    go_wp2_with fail
    refine (risDate_any _ _ hdt).mono ?_
    rintro e w' ⟨rfl, rfl⟩
    go_wp2_with fail
    refine S1.out.mono ?_
    rintro e w1 ⟨rfl, hb1⟩
    go_wp2_with fail
    refine (HL.out _).mono ?_
    rintro e w2 ⟨rfl, hb2⟩
    go_wp2_with fail
    refine (HL.out _).mono ?_
    rintro e w3 ⟨rfl, hb3⟩
    go_wp2_with fail
    with_reducible refine (HO.out _).mono ?_
    rintro e w4 ⟨rfl, hb4⟩
    go_wp2
    go_ret2
    exact ⟨rfl, ((hb1.trans (hb2.mono hb1.size)).trans (hb3.mono (Nat.le_trans hb1.size hb2.size))).trans (hb4.mono (Nat.le_trans (Nat.le_trans hb1.size hb2.size) hb3.size))⟩
  · obtain rfl : D = d := by omega
    have hmin : min (D : Int) (L : Int) = (D : Int) := by omega
    clear hD
    go_enter Tryd.func22, Tryd.ntmps22
    go_wp2_with fail
    refine (risDate_any _ _ hdt).mono ?_
    rintro e w' ⟨rfl, rfl⟩
    go_wp2_with fail
    refine S1.out.mono ?_
    rintro e w1 ⟨rfl, hb1⟩
    go_wp2_with fail
    refine (HL.out _).mono ?_
    rintro e w2 ⟨rfl, hb2⟩
    go_wp2_with fail
    with_reducible refine (HO.out _).mono ?_
    rintro e w4 ⟨rfl, hb4⟩
    go_wp2
    go_ret2
    exact ⟨rfl, (hb1.trans (hb2.mono hb1.size)).trans (hb4.mono (Nat.le_trans hb1.size hb2.size))⟩
theorem addm_tot (n k : Int) : ∃ a e : Int,
    (∀ w, Mth w → Calls Tryd.prog 21 #[.int .i64 n, .int .i64 k] w fun x w' => x = .returned (.tuple #[.int .i64 a, .int .i64 e]) ∧ w = w') ∧
    (∀ w, Calls Tryd.prog 22 #[.int .i64 n, .int .i64 k] w fun x w' => x = .returned (.tuple #[.int .i64 a, .int .i64 e]) ∧ Below w.heap.size w w') := by
  by_cases h : isDt n = true ∧ -10000 ≤ k ∧ k ≤ 10000
  · obtain ⟨hd, k0, k1⟩ := h
    obtain ⟨n0, n1⟩ : 0 ≤ n ∧ n ≤ 99999 := of_decide_eq_true hd
    obtain ⟨n, rfl⟩ := Int.eq_ofNat_of_zero_le n0
    obtain ⟨y, m, d, hI, hy1⟩ := isD_ex n (by omega)
    by_cases hk : 23640 ≤ (y : Int) * 12 + m - 1 + k ∧ (y : Int) * 12 + m - 1 + k ≤ 26927
    · obtain ⟨Q, hQ⟩ := Int.eq_ofNat_of_zero_le (show 0 ≤ (y : Int) * 12 + m - 1 + k by omega)
      have hml := ml_bd (Q / 12) (Q % 12 + 1)
      have hd0 := hI.d0
      obtain ⟨a, e, h1, h2⟩ := of_in (Q / 12) (Q % 12 + 1) (min d (ml (Q / 12) (Q % 12 + 1))) (by omega) (by omega) (by omega) (by omega) (by omega) (by omega)
      refine ⟨a, e, fun w hM => ?_, fun w => ?_⟩
      · exact addm_in hI (by omega) k k0 k1 (Q / 12) (Q % 12) _ (by rw [hQ]; congr 1; omega) (by omega) (by omega) (by omega) rfl w hM (h1 w hM)
      · exact raddm_in hI (by omega) k k0 k1 (Q / 12) (Q % 12) _ (by rw [hQ]; congr 1; omega) (by omega) (by omega) (by omega) rfl w (fun w => h2 w)
    · exact ⟨_, _, fun w hM => addm_out hI (by omega) k k0 k1 hk w hM, fun w => raddm_out hI (by omega) k k0 k1 hk w⟩
  · refine ⟨_, _, fun w hM => addm_no n k h w, fun w => (raddm_no n k h w).mono ?_⟩
    rintro e w' ⟨rfl, rfl⟩
    exact ⟨rfl, Below.refl _ _⟩
end Go.Proofs.YtaagifggeafgnaaDoor

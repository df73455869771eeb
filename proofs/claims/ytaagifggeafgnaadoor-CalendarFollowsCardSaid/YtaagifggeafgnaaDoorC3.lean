/-
  CONTRACTS of dates: Split.
-/
import Derived.Test.YtaagifggeafgnaaDoorC2
import Derived.OwnWalk
namespace Go.Proofs.YtaagifggeafgnaaDoor
open Go.RowKit Go.Lib
set_option linter.unusedVariables false
theorem ret_tri {a b c c' : Int} (h : c = c') : Ending.returned (.tuple #[.int .i64 a, .int .i64 b, .int .i64 c]) = .returned (.tuple #[.int .i64 a, .int .i64 b, .int .i64 c']) := by rw [h]
theorem year_go {n y m d i r : Nat} (h : IsD n y m d) (hi : 1970 ≤ i) (hr : r + bef (i - 1970) = n) : (i < y → yl i ≤ r) ∧ (i = y → r < yl i) := by
  have hS := bef_step hi
  constructor
  · intro hlt
    have h1 := bef_mono (show i + 1 - 1970 ≤ y - 1970 by omega)
    have h2 := h.low
    omega
  · intro he
    subst he
    have h1 := h.year
    rw [show i - 1970 + 1 = i + 1 - 1970 by omega] at h1
    omega
theorem mb_step (y : Nat) {j : Nat} (h : 1 ≤ j) : mb y j = mb y (j - 1) + ml y j := by
  obtain ⟨k, rfl⟩ : ∃ k, j = k + 1 := ⟨j - 1, by omega⟩
  rw [Nat.add_sub_cancel, mb]
theorem month_go {n y m d j r : Nat} (h : IsD n y m d) (hj : 1 ≤ j) (hr : r + bef (y - 1970) + mb y (j - 1) = n) : (j < m → ml y j ≤ r) ∧ (j = m → r < ml y j ∧ r + 1 = d) := by
  have hS := mb_step y hj
  constructor
  · intro hlt
    have h1 := mb_mono y (show j ≤ m - 1 by omega)
    have h2 := h.low
    omega
  · intro he
    subst he
    have h1 := h.high
    have h2 := h.e
    omega
set_option maxRecDepth 8000 in
set_option maxHeartbeats 800000 in
theorem split_ok {n y m d : Nat} (h : IsD n y m d) (hn : n ≤ 99999) (w : World) (hM : Mth w) : Calls Tryd.prog 11 #[.int .i64 (n : Int)] w fun e w' => e = .returned (.tuple #[.int .i64 (y : Int), .int .i64 (m : Int), .int .i64 (d : Int)]) ∧ w = w' := by
  have hy0 := h.y0
  have hy1 := h.y1 (by omega)
  have hm0 := h.m0
  have hm1 := h.m1
  have H := Lib.hid h
  clear h
  have HM := Lib.hid hM
  clear hM
  have hD : Hid (isDt (n : Int) = true) := Lib.hid (isDt_yes (by omega) (by omega))
  go_enter Tryd.func11, Tryd.ntmps11
  go_wp2_with fail
  refine (isDate_any _ _ hD).mono ?_
  rintro e w' ⟨rfl, rfl⟩
  go_wp2_with fail
  go_loop [0, 2] (fun dd yy => ∃ i r : Nat, 1970 ≤ i ∧ i ≤ y ∧ r + bef (i - 1970) = n ∧ dd = .int .i64 (r : Int) ∧ yy = .int .i64 (i : Int)) (fun _ yy => y - (intOf yy).toNat)
  case atStart => exact ⟨1970, n, Nat.le_refl _, hy0, rfl, rfl, rfl⟩
  case round =>
    obtain ⟨i, r, hi0, hi, hr, rfl, rfl⟩ := hrel
    have hgo := year_go H.out hi0 hr
    have hS := bef_step hi0
    have hyl := yl_bd i
    have HY : Hid (∀ w, Calls Tryd.prog 32 #[.int .i64 (i : Int)] w fun e w' => e = .returned (.int .i64 (yl i : Int)) ∧ w = w') := Lib.hid fun w => yl_any i (by omega) w
    have HR := Lib.hid hr
    have HS := Lib.hid hS
    clear hr hS
    generalize yl i = L at *
    by_cases hlt : i < y
    · have hle : (L : Int) ≤ (r : Int) := by have := hgo.1 hlt; omega
      have hw : wrap64 ((r : Int) - (L : Int)) = ((r - L : Nat) : Int) := by have := HR.out; rw [IntWalk.wrap64_in _ (by omega)]; omega
      clear hgo
      go_wp2_with (first | (go_at_call 32; refine (HY.out _).mono ?_; rintro e w' ⟨rfl, rfl⟩))
      go_round
      case rel => exact ⟨i + 1, r - L, by omega, by omega, by rw [HS.out]; have := HR.out; omega, val_int hw, by go_num⟩
      case measure => simp [intOf]; omega
    · obtain rfl : i = y := by omega
      have hle : ¬ L ≤ r := by have := hgo.2 rfl; omega
      clear hgo HS hyl
      have HY2 := HY
      clear HY
      go_wp2_with (first | (go_at_call 32; refine (HY2.out _).mono ?_; rintro e w' ⟨rfl, rfl⟩))
      go_loop [0, 3] (fun dd mm => ∃ j r : Nat, 1 ≤ j ∧ j ≤ m ∧ r + bef (i - 1970) + mb i (j - 1) = n ∧ dd = .int .i64 (r : Int) ∧ mm = .int .i64 (j : Int)) (fun _ mm => m - (intOf mm).toNat)
      case atStart => exact ⟨1, r, Nat.le_refl _, hm0, HR.out, rfl, rfl⟩
      case round =>
        clear hle hlt
        clear HR
        obtain ⟨j, r, hj0, hj, hr, rfl, rfl⟩ := hrel
        have hgo := month_go H.out hj0 hr
        have hS := mb_step i hj0
        have hml := ml_bd i j
        have HY : Hid (∀ w, Mth w → Calls Tryd.prog 31 #[.int .i64 (i : Int), .int .i64 (j : Int)] w fun e w' => e = .returned (.int .i64 (ml i j : Int)) ∧ w = w') := Lib.hid fun w => ml_any i j (by omega) hj0 (by omega) w
        have HR := Lib.hid hr
        have HS := Lib.hid hS
        clear hr hS
        generalize ml i j = L at *
        by_cases hlt : j < m
        · have hle : (L : Int) ≤ (r : Int) := by have := hgo.1 hlt; omega
          have hw : wrap64 ((r : Int) - (L : Int)) = ((r - L : Nat) : Int) := by have := HR.out; rw [IntWalk.wrap64_in _ (by omega)]; omega
          clear hgo
          go_wp2_with (first | (go_at_call 31; refine (HY.out _ HM.out).mono ?_; rintro e w' ⟨rfl, rfl⟩))
          go_round
          case rel => exact ⟨j + 1, r - L, by omega, by omega, by rw [Nat.add_sub_cancel, HS.out]; have := HR.out; omega, val_int hw, by go_num⟩
          case measure => simp [intOf]; omega
        · obtain rfl : j = m := by omega
          have hle : ¬ L ≤ r := by have := (hgo.2 rfl).1; omega
          have hd : Hid (d = r + 1) := Lib.hid (hgo.2 rfl).2.symm
          clear hgo HS
          go_wp2_with (first | (go_at_call 31; refine (HY.out _ HM.out).mono ?_; rintro e w' ⟨rfl, rfl⟩))
          go_ret3
          exact ⟨ret_tri (by rw [hd.out]; rfl), rfl⟩
theorem split_no {n : Int} (h : isDt n = false) (w : World) : Calls Tryd.prog 11 #[.int .i64 n] w fun e w' => e = .returned (.tuple #[.int .i64 0, .int .i64 0, .int .i64 0]) ∧ w = w' := by
  have hD := Lib.hid h
  clear h
  go_enter Tryd.func11, Tryd.ntmps11
  go_wp2_with fail
  refine (isDate_any _ _ hD).mono ?_
  rintro e w' ⟨rfl, rfl⟩
  go_wp2
  go_ret3
  exact ⟨rfl, rfl⟩
theorem rsplit_no {n : Int} (h : isDt n = false) (w : World) : Calls Tryd.prog 12 #[.int .i64 n] w fun e w' => e = .returned (.tuple #[.int .i64 0, .int .i64 0, .int .i64 0]) ∧ w = w' := by
  have hD := Lib.hid h
  clear h
  go_enter Tryd.func12, Tryd.ntmps12
  go_wp2_with fail
  refine (risDate_any _ _ hD).mono ?_
  rintro e w' ⟨rfl, rfl⟩
  go_wp2
  go_ret3
  exact ⟨rfl, rfl⟩
set_option maxRecDepth 8000 in
set_option maxHeartbeats 800000 in
theorem rsplit_ok {n y m d : Nat} (h : IsD n y m d) (hn : n ≤ 99999) (w : World) : Calls Tryd.prog 12 #[.int .i64 (n : Int)] w fun e w' => e = .returned (.tuple #[.int .i64 (y : Int), .int .i64 (m : Int), .int .i64 (d : Int)]) ∧ Below w.heap.size w w' := by
  have hy0 := h.y0
  have hy1 := h.y1 (by omega)
  have hm0 := h.m0
  have hm1 := h.m1
  have H := Lib.hid h
  clear h
  have hD : Hid (isDt (n : Int) = true) := Lib.hid (isDt_yes (by omega) (by omega))
  go_enter Tryd.func12, Tryd.ntmps12
  go_wp2_with fail
  refine (risDate_any _ _ hD).mono ?_
  rintro e w' ⟨rfl, rfl⟩
  go_wp2_with fail
  go_loop [5] (fun yy => ∃ i : Nat, 1970 ≤ i ∧ i ≤ y ∧ yy = .int .i64 (i : Int)) (fun yy => y - (intOf yy).toNat)
  case atStart => exact ⟨1970, Nat.le_refl _, hy0, rfl⟩
  case round =>
    obtain ⟨i, hi0, hi, rfl⟩ := hrel
    have HB : Hid (∀ w, Calls Tryd.prog 34 #[.int .i64 ((i : Int) + 1)] w fun e w' => e = .returned (.int .i64 (bef (i + 1 - 1970) : Int)) ∧ w = w') := Lib.hid fun w => before_any (i + 1) (by omega) (by omega) w
    have hlow := H.out.low
    have hyear := H.out.year
    by_cases hlt : i < y
    · have hle : bef (i + 1 - 1970) ≤ n := by have := bef_mono (show i + 1 - 1970 ≤ y - 1970 by omega); omega
      clear hlow hyear
      generalize bef (i + 1 - 1970) = L at *
      go_wp2_with (first | (go_at_call 34; refine (HB.out _).mono ?_; rintro e w' ⟨rfl, rfl⟩))
      go_round
      case rel => exact ⟨i + 1, by omega, by omega, by go_num⟩
      case measure => simp [intOf]; omega
    · obtain rfl : i = y := by omega
      have hle : ¬ bef (i + 1 - 1970) ≤ n := by rw [show i - 1970 + 1 = i + 1 - 1970 by omega] at hyear; omega
      have HB2 : Hid (∀ w, Calls Tryd.prog 34 #[.int .i64 (i : Int)] w fun e w' => e = .returned (.int .i64 (bef (i - 1970) : Int)) ∧ w = w') := Lib.hid fun w => before_any i (by omega) (by omega) w
      have hw : wrap64 ((n : Int) - (bef (i - 1970) : Int)) = ((n - bef (i - 1970) : Nat) : Int) := by rw [IntWalk.wrap64_in _ (by omega)]; omega
      have hbn : bef (i - 1970) ≤ n := by omega
      have hwR : Hid ((n : Int) - (bef (i - 1970) : Int) = ((n - bef (i - 1970) : Nat) : Int)) := Lib.hid (by omega)
      have HR : Hid ((n - bef (i - 1970)) + bef (i - 1970) + mb i (1 - 1) = n) := Lib.hid (by simp [mb]; omega)
      clear hlow hyear
      generalize bef (i + 1 - 1970) = L at *
      generalize hK : bef (i - 1970) = K at *
      replace hK := Lib.hid hK
      generalize n - K = R at *
      go_wp2_with (first | (go_at_call 34; with_reducible refine (HB.out _).mono ?_; rintro e w' ⟨rfl, rfl⟩) | (go_at_call 34; with_reducible refine (HB2.out _).mono ?_; rintro e w' ⟨rfl, rfl⟩))
      go_loopw [6, 7] (fun dd mm wr => ∃ j r : Nat, 1 ≤ j ∧ j ≤ m ∧ r + K + mb i (j - 1) = n ∧ dd = .int .i64 (r : Int) ∧ mm = .int .i64 (j : Int) ∧ Below w.heap.size w wr) (fun _ mm _ => m - (intOf mm).toNat)
      case atStart => exact ⟨1, R, Nat.le_refl _, hm0, HR.out, val_int hwR.out, rfl, Below.refl _ _⟩
      case round =>
        obtain ⟨j, r, hj0, hj, hr, rfl, rfl, hb0⟩ := hrel
        have hgo := month_go H.out hj0 (by rw [hK.out]; exact hr)
        have hS := mb_step i hj0
        have hml := ml_bd i j
        have HY : Hid (∀ w, Calls Tryd.prog 33 #[.int .i64 (i : Int), .int .i64 (j : Int)] w fun e w' => e = .returned (.int .i64 (ml i j : Int)) ∧ Below w.heap.size w w') := Lib.hid fun w => days_any i j (by omega) hj0 (by omega) w
        have HR := Lib.hid hr
        have HS := Lib.hid hS
        clear hr hS
        generalize ml i j = L at *
        by_cases hlt : j < m
        · have hle : L ≤ r := by have := hgo.1 hlt; omega
          have hw : wrap64 ((r : Int) - (L : Int)) = ((r - L : Nat) : Int) := by have := HR.out; rw [IntWalk.wrap64_in _ (by omega)]; omega
          clear hgo
          go_wp2_with fail
          refine (HY.out _).mono ?_
          rintro e w1 ⟨rfl, hb1⟩
          go_wp2_with fail
          refine (HY.out _).mono ?_
          rintro e w2 ⟨rfl, hb2⟩
          have HB3 := Lib.hid ((hb0.trans (hb1.mono hb0.size)).trans (hb2.mono (Nat.le_trans hb0.size hb1.size)))
          clear hb0 hb1 hb2
          go_wp2
          go_round
          case rel => exact ⟨j + 1, r - L, by omega, by omega, by rw [Nat.add_sub_cancel, HS.out]; have := HR.out; omega, val_int hw, by go_num, HB3.out⟩
          case measure => simp [intOf]; omega
        · obtain rfl : j = m := by omega
          have hle : ¬ L ≤ r := by have := (hgo.2 rfl).1; omega
          have hd : Hid (d = r + 1) := Lib.hid (hgo.2 rfl).2.symm
          clear hgo HS
          go_wp2_with fail
          refine (HY.out _).mono ?_
          rintro e w1 ⟨rfl, hb1⟩
          have HB3 := Lib.hid (hb0.trans (hb1.mono hb0.size))
          clear hb0 hb1
          go_wp2
          go_ret3
          exact ⟨ret_tri (by rw [hd.out]; rfl), HB3.out⟩
end Go.Proofs.YtaagifggeafgnaaDoor

/-
  CONTRACTS of dates: Next, Count.
-/
import Derived.Test.YtaagifggeafgnaaDoorC11
namespace Go.Proofs.YtaagifggeafgnaaDoor
open Go.RowKit Go.Maps
set_option linter.unusedVariables false
set_option linter.unusedSimpArgs false
/-- r is the first business day at z or later. -/
structure IsNext (S : Int → Bool) (z r : Nat) : Prop where
  le : z ≤ r
  hit : biz S (r : Int) = true
  miss : ∀ j : Nat, z ≤ j → j < r → biz S (j : Int) = false
theorem biz_date {S : Int → Bool} {r : Nat} (h : biz S (r : Int) = true) : r ≤ 99999 := by
  unfold biz at h
  rw [Bool.and_eq_true] at h
  have := of_decide_eq_true h.1
  omega
set_option maxRecDepth 8000 in
theorem next_ok {w : World} {c m n : Nat} {S : Int → Bool} (hC : CalAt w c m n S) {z r : Nat} (h : IsNext S z r) : Calls Tryd.prog 28 #[.pointer (some ⟨c, 0, none⟩), .int .i64 (z : Int)] w fun e w' => e = .returned (.tuple #[.int .i64 (r : Int), .int .i64 0]) ∧ w = w' := by
  have hr := biz_date h.hit
  have hz := h.le
  have hD : Hid (isDt (z : Int) = true) := Lib.hid (isDt_yes (by omega) (by omega))
  have H := Lib.hid h
  clear h
  go_enter Tryd.func28, Tryd.ntmps28
  go_wp2_with fail
  refine (isDate_any _ _ hD).mono ?_
  rintro e w' ⟨rfl, rfl⟩
  go_wp2_with fail
  go_loop [1] (fun d => ∃ i : Nat, z ≤ i ∧ i ≤ r ∧ d = .int .i64 (i : Int)) (fun d => r - (intOf d).toNat)
  case atStart => exact ⟨z, Nat.le_refl _, hz, rfl⟩
  case round =>
    obtain ⟨i, hi0, hi, rfl⟩ := hrel
    have HB := Lib.hid (biz_any hC (i : Int) (WalkArith.wf_i64 (by omega)))
    by_cases hlt : i < r
    · have hb := H.out.miss i hi0 hlt
      rw [hb] at HB
      clear hb
      go_wp2_with fail
      refine HB.out.mono ?_
      rintro e w' ⟨rfl, rfl⟩
      have g : ¬ (99999 : Int) < (i : Int) := by omega
      go_wp2
      go_round
      case rel => exact ⟨i + 1, by omega, by omega, by go_num⟩
      case measure => simp [intOf]; omega
    · obtain rfl : i = r := by omega
      rw [H.out.hit] at HB
      go_wp2_with fail
      refine HB.out.mono ?_
      rintro e w' ⟨rfl, rfl⟩
      go_wp2
      go_ret2
      exact ⟨rfl, rfl⟩
def cntB (S : Int → Bool) (a : Nat) : Nat → Nat
  | 0 => 0
  | k + 1 => cntB S a k + (if biz S ((a + k : Nat) : Int) then 1 else 0)
theorem cntB_le (S : Int → Bool) (a : Nat) : ∀ k, cntB S a k ≤ k
  | 0 => Nat.le_refl _
  | k + 1 => by have := cntB_le S a k; rw [cntB]; split <;> omega
theorem cntB_yes {S : Int → Bool} {a i : Nat} (h : a ≤ i) (hb : biz S (i : Int) = true) : cntB S a (i + 1 - a) = cntB S a (i - a) + 1 := by
  rw [show i + 1 - a = (i - a) + 1 by omega, cntB, show a + (i - a) = i by omega, hb]; rfl
theorem cntB_no {S : Int → Bool} {a i : Nat} (h : a ≤ i) (hb : biz S (i : Int) = false) : cntB S a (i + 1 - a) = cntB S a (i - a) := by
  rw [show i + 1 - a = (i - a) + 1 by omega, cntB, show a + (i - a) = i by omega, hb]; rfl
set_option maxRecDepth 8000 in
set_option maxHeartbeats 800000 in
theorem count_ok {w : World} {c m n : Nat} {S : Int → Bool} (hC : CalAt w c m n S) {a b : Nat} (ha : a ≤ 99999) (hb : b ≤ 99999) : Calls Tryd.prog 30 #[.pointer (some ⟨c, 0, none⟩), .int .i64 (a : Int), .int .i64 (b : Int)] w fun e w' => e = .returned (.int .i64 (cntB S a (b - a) : Int)) ∧ w = w' := by
  have hA : Hid (isDt (a : Int) = true) := Lib.hid (isDt_yes (by omega) (by omega))
  have hB : Hid (isDt (b : Int) = true) := Lib.hid (isDt_yes (by omega) (by omega))
  go_enter Tryd.func30, Tryd.ntmps30
  go_wp2_with fail
  refine (isDate_any _ _ hA).mono ?_
  rintro e w' ⟨rfl, rfl⟩
  go_wp2_with fail
  refine (isDate_any _ _ hB).mono ?_
  rintro e w' ⟨rfl, rfl⟩
  go_wp2_with fail
  go_loop [7, 8] (fun s d => ∃ i : Nat, a ≤ i ∧ (i ≤ b ∨ i = a) ∧ s = .int .i64 (cntB S a (i - a) : Int) ∧ d = .int .i64 (i : Int)) (fun _ d => b - (intOf d).toNat)
  case atStart => exact ⟨a, Nat.le_refl _, .inr rfl, by rw [Nat.sub_self]; rfl, rfl⟩
  case round =>
    obtain ⟨i, hi0, hi, rfl, rfl⟩ := hrel
    have HB := Lib.hid (biz_any hC (i : Int) (WalkArith.wf_i64 (by omega)))
    have hk := cntB_le S a (i - a)
    by_cases hlt : i < b
    · cases hz : biz S (i : Int)
      · have HN := Lib.hid (cntB_no hi0 hz)
        rw [hz] at HB
        clear hz
        generalize cntB S a (i - a) = q at *
        go_wp2_with fail
        refine HB.out.mono ?_
        rintro e w' ⟨rfl, rfl⟩
        go_wp2
        go_round
        case rel => exact ⟨i + 1, by omega, by omega, val_int (by rw [HN.out]), by go_num⟩
        case measure => simp [intOf]; omega
      · have HN := Lib.hid (cntB_yes hi0 hz)
        rw [hz] at HB
        clear hz
        generalize cntB S a (i - a) = q at *
        go_wp2_with fail
        refine HB.out.mono ?_
        rintro e w' ⟨rfl, rfl⟩
        go_wp2
        go_round
        case rel => exact ⟨i + 1, by omega, by omega, val_int (by rw [HN.out]; rfl), by go_num⟩
        case measure => simp [intOf]; omega
    · have HN : Hid (cntB S a (b - a) = cntB S a (i - a)) := Lib.hid (by rcases hi with hi | hi; (rw [show i = b by omega]); (rw [show b - a = 0 by omega, show i - a = 0 by omega]))
      generalize cntB S a (i - a) = q at *
      go_wp2
      go_ret
      exact ⟨ret_int (by rw [HN.out]), rfl⟩
end Go.Proofs.YtaagifggeafgnaaDoor

/-
  CONTRACTS of the lexer: names, of both.
-/
import Derived.Test.YtklogijbdpghpaaDoorL13
namespace Go.Proofs.YtklogijbdpghpaaDoor
open Go.RowKit
set_option linter.unusedVariables false
set_option linter.unusedSimpArgs false
/-- A name. -/
def nameB (s : ByteArray) : Bool := decide (0 < s.size) && decide (s.size ≤ 16) && letterB (byt s 0) && decide (wdP s 0 = s.size)
theorem empty_eq {s : ByteArray} (h : s.size = 0) : s = ⟨#[]⟩ := by
  apply ByteArray.ext
  apply Array.ext'
  have : s.data.toList.length = 0 := h
  exact List.length_eq_zero_iff.1 this
theorem str_eq0 {s : ByteArray} (h : s.size ≠ 0) : (s.toList == ([] : List UInt8)) = false := by
  rw [ByteArray.toList_eq, beq_eq_false_iff_ne]
  intro hh
  have : s.data.toList.length = 0 := by rw [hh]; rfl
  exact h this
theorem str_ne0 {s : ByteArray} (h : s.size ≠ 0) : s.toList.isEmpty = false := nonempty_list (by omega)
set_option maxHeartbeats 1600000 in
theorem name_any (s : ByteArray) (hs : s.size ≤ 10000) (w : World) {b : Bool} (hb : nameB s = b) : Calls Tryd.prog 35 #[.string s, .int .i64 16] w fun e w' => e = .returned (.bool b) ∧ w = w' := by
  go_enter Tryd.func35, Tryd.ntmps35
  by_cases h0 : s.size = 0
  · obtain rfl : b = false := by rw [← hb]; unfold nameB; simp [h0]
    obtain rfl := empty_eq h0
    clear hb h0
    go_wp2_with fail
    go_ret
    exact ⟨rfl, rfl⟩
  have e0 := str_eq0 h0
  have e00 := str_ne0 h0
  by_cases h16 : 16 < s.size
  · obtain rfl : b = false := by rw [← hb]; unfold nameB; simp; omega
    have d1 : decide ((16 : Int) < (s.size : Int)) = true := decide_eq_true (by omega)
    clear hb h0 h16
    go_wp2_with fail
    go_ret
    exact ⟨rfl, rfl⟩
  have d1 : decide ((16 : Int) < (s.size : Int)) = false := decide_eq_false (by omega)
  have hx0 := fun w => ix_at s 0 (by omega) (i := 0) rfl w
  have hB := byt_bd s 0
  cases hl : letterB (byt s 0) with
  | false =>
    obtain rfl : b = false := by rw [← hb]; unfold nameB; simp [hl]
    clear hb h0 h16
    go_wp2_with (go_at_call 56; refine (tletter_any _ (by omega) (by omega) _).mono ?_; rintro e w' ⟨rfl, rfl⟩)
    go_ret
    exact ⟨rfl, rfl⟩
  | true =>
    have HN : Hid (b = decide (wdP s 0 = s.size)) := Lib.hid (by rw [← hb]; unfold nameB; rw [hl]; simp; omega)
    clear hb
    go_wp2_with (go_at_call 56; refine (tletter_any _ (by omega) (by omega) _).mono ?_; rintro e w' ⟨rfl, rfl⟩)
    clear hl
    go_loop [5] (fun v => ∃ k : Nat, k ≤ s.size ∧ v = .int .i64 (k : Int) ∧ Hid (wdP s 0 = wdP s k)) (fun v => s.size - (intOf v).toNat)
    case atStart => exact ⟨0, Nat.zero_le _, rfl, Lib.hid rfl⟩
    case round =>
      obtain ⟨k, hk, rfl, HK⟩ := hrel
      by_cases hlt : k < s.size
      · have hx := fun w => ix_at s k hlt (i := (k : Int)) rfl w
        have hBk := byt_bd s k
        have HW : Hid (isW (byt s k) = (letterB (byt s k) || digitB (byt s k) || byt s k == 95)) := Lib.hid rfl
        have HGo : Hid (isW (byt s k) = true → wdP s 0 = wdP s (k + 1)) := Lib.hid fun h => HK.out.trans (wdP_go s k hlt h)
        have HSt : Hid (isW (byt s k) = false → b = false) := Lib.hid fun h => by
          rw [HN.out, HK.out, wdP_stop s k h]
          exact decide_eq_false (by omega)
        cases hlk : letterB (byt s k) with
        | true =>
          have HG := Lib.hid (HGo.out (by rw [HW.out, hlk]; rfl))
          go_wp2_with (go_at_call 56; refine (tletter_any _ (by omega) (by omega) _).mono ?_; rintro e w' ⟨rfl, rfl⟩)
          go_round
          case rel => exact ⟨k + 1, by omega, by go_num, HG⟩
          case measure => simp [intOf]; omega
        | false =>
          cases hdk : digitB (byt s k) with
          | true =>
            have HG := Lib.hid (HGo.out (by rw [HW.out, hlk, hdk]; rfl))
            go_wp2_with (first | (go_at_call 56; refine (tletter_any _ (by omega) (by omega) _).mono ?_; rintro e w' ⟨rfl, rfl⟩) | (go_at_call 57; refine (tdigit_any _ (by omega) (by omega) _).mono ?_; rintro e w' ⟨rfl, rfl⟩))
            go_round
            case rel => exact ⟨k + 1, by omega, by go_num, HG⟩
            case measure => simp [intOf]; omega
          | false =>
            by_cases h95 : byt s k = 95
            · have HG := Lib.hid (HGo.out (by rw [HW.out, hlk, hdk, h95]; rfl))
              have e1 : (byt s k == 95) = true := by rw [h95]; rfl
              have e2 : (byt s k != 95) = false := by rw [h95]; rfl
              clear h95
              go_wp2_with (first | (go_at_call 56; refine (tletter_any _ (by omega) (by omega) _).mono ?_; rintro e w' ⟨rfl, rfl⟩) | (go_at_call 57; refine (tdigit_any _ (by omega) (by omega) _).mono ?_; rintro e w' ⟨rfl, rfl⟩))
              go_round
              case rel => exact ⟨k + 1, by omega, by go_num, HG⟩
              case measure => simp [intOf]; omega
            · have HS := Lib.hid (HSt.out (by rw [HW.out, hlk, hdk, beq_false_of_ne h95]; rfl))
              have e1 : (byt s k == 95) = false := beq_false_of_ne h95
              have e2 : (byt s k != 95) = true := by simp [h95]
              clear h95
              go_wp2_with (first | (go_at_call 56; refine (tletter_any _ (by omega) (by omega) _).mono ?_; rintro e w' ⟨rfl, rfl⟩) | (go_at_call 57; refine (tdigit_any _ (by omega) (by omega) _).mono ?_; rintro e w' ⟨rfl, rfl⟩))
              go_ret
              exact ⟨ret_bool HS.out.symm, rfl⟩
      · obtain rfl : k = s.size := by omega
        have HS : Hid (b = true) := Lib.hid (by rw [HN.out, HK.out, wdP_end s s.size (Nat.le_refl _)]; exact decide_eq_true rfl)
        go_wp2_with fail
        go_ret
        exact ⟨ret_bool HS.out.symm, rfl⟩
theorem lname_any (s : ByteArray) (hs : s.size ≤ 10000) (w : World) {b : Bool} (hb : nameB s = b) : Calls Tryd.prog 15 #[.string s] w fun e w' => e = .returned (.bool b) ∧ w = w' := by
  have NA := Lib.hid (name_any s hs w hb)
  clear hb
  go_enter Tryd.func15, Tryd.ntmps15
  go_wp2_with fail
  refine NA.out.mono ?_
  rintro e w' ⟨rfl, rfl⟩
  go_wp2_with fail
  go_ret
  exact ⟨rfl, rfl⟩
set_option maxHeartbeats 1600000 in
theorem rname_any (s : ByteArray) (hs : s.size ≤ 10000) (w : World) {b : Bool} (hb : nameB s = b) : Calls Tryd.prog 16 #[.string s] w fun e w' => e = .returned (.bool b) ∧ w = w' := by
  go_enter Tryd.func16, Tryd.ntmps16
  by_cases h0 : s.size = 0
  · obtain rfl : b = false := by rw [← hb]; unfold nameB; simp [h0]
    obtain rfl := empty_eq h0
    clear hb h0
    go_wp2_with fail
    go_ret
    exact ⟨rfl, rfl⟩
  have e0 := str_eq0 h0
  have e00 := str_ne0 h0
  have e000 : (!s.toList.isEmpty) = true := by rw [e00]; rfl
  have e01 : (s.toList != ([] : List UInt8)) = true := by unfold bne; rw [e0]; rfl
  by_cases h16 : s.size ≤ 16
  · have d1 : decide ((s.size : Int) ≤ 16) = true := decide_eq_true (by omega)
    have hx0 := fun w => ix_at s 0 (by omega) (i := 0) rfl w
    have hB := byt_bd s 0
    cases hl : letterB (byt s 0) with
    | false =>
      obtain rfl : b = false := by rw [← hb]; unfold nameB; simp [hl]
      clear hb h0 h16
      go_wp2_with (go_at_call 36; refine (rletter_any _ (by omega) (by omega) _).mono ?_; rintro e w' ⟨rfl, rfl⟩)
      go_ret
      exact ⟨rfl, rfl⟩
    | true =>
      obtain ⟨q, hq⟩ : ∃ q, wdP s 0 = q := ⟨_, rfl⟩
      have hbq : ((q : Int) == (s.size : Int)) = b := by
        rw [← hb]; unfold nameB; rw [hl, hq]
        rw [Bool.eq_iff_iff]
        simp
        omega
      have WD := Lib.hid (fun w => rword_any s hs 0 (Nat.zero_le _) hq w)
      clear hb hq
      go_wp2_with (first | (go_at_call 36; refine (rletter_any _ (by omega) (by omega) _).mono ?_; rintro e w' ⟨rfl, rfl⟩) | (go_at_call 37; refine (WD.out _).mono ?_; rintro e w' ⟨rfl, rfl⟩))
      go_ret
      exact ⟨rfl, rfl⟩
  · obtain rfl : b = false := by rw [← hb]; unfold nameB; simp [h16]
    have d1 : decide ((s.size : Int) ≤ 16) = false := decide_eq_false (by omega)
    clear hb h0 h16
    go_wp2_with fail
    go_ret
    exact ⟨rfl, rfl⟩
end Go.Proofs.YtklogijbdpghpaaDoor

/-
  CONTRACTS of card numbers: CheckDigit, the program's and the specification's.
-/
import Derived.Test.YtddnfjaogekmjaaDoorP2
namespace Go.Proofs.YtddnfjaogekmjaaDoor
open Go.RowKit
set_option linter.unusedVariables false
theorem ret_2 {k : IntKind} {a b : Int} {c : Int} (h : a = b) : Ending.returned (.tuple #[.int k a, .int .i64 c]) = .returned (.tuple #[.int k b, .int .i64 c]) := by rw [h]
theorem cd_short (s : ByteArray) (h : s.size = 0) (w : World) :
    Calls Tryd.prog 11 #[.string s] w fun e w' => e = .returned (.tuple #[.int .u8 0, .int .i64 1]) ∧ Below w.heap.size w w' := by
  have h1 := empty_list h
  have h2 : s.toList.isEmpty = true := by rw [h1]; rfl
  have h3 : (!s.toList.isEmpty) = false := by rw [h2]; rfl
  go_enter Tryd.func11, Tryd.ntmps11
  go_wp2
  go_ret2
  exact ⟨rfl, Below.refl _ _⟩
theorem cd_long (s : ByteArray) (hs : s.size ≤ 1000) (h : 18 < s.size) (w : World) :
    Calls Tryd.prog 11 #[.string s] w fun e w' => e = .returned (.tuple #[.int .u8 0, .int .i64 3]) ∧ Below w.heap.size w w' := by
  have hn : s.toList.isEmpty = false := nonempty_list (by omega)
  have hn1 : ¬ s.toList = [] := by intro h; rw [h] at hn; simp at hn
  have hn2 : (!s.toList.isEmpty) = true := by rw [hn]; rfl
  go_enter Tryd.func11, Tryd.ntmps11
  go_wp2
  go_ret2
  exact ⟨rfl, Below.refl _ _⟩
theorem cd_form (s : ByteArray) (h1 : 0 < s.size) (h2 : s.size ≤ 18) (hd : ¬ Dgs s) (w : World) :
    Calls Tryd.prog 11 #[.string s] w fun e w' => e = .returned (.tuple #[.int .u8 0, .int .i64 2]) ∧ Below w.heap.size w w' := by
  have hn : s.toList.isEmpty = false := nonempty_list (by omega)
  have hn1 : ¬ s.toList = [] := by intro h; rw [h] at hn; simp at hn
  have hn2 : (!s.toList.isEmpty) = true := by rw [hn]; rfl
  have C1 := Lib.hid (fun w => digits_no s (by omega) hd w)
  clear hd
  go_enter Tryd.func11, Tryd.ntmps11
  go_wp2_with (go_at_call 29; refine (C1.out _).mono ?_; rintro e w' ⟨rfl, rfl⟩)
  go_ret2
  exact ⟨rfl, Below.refl _ _⟩
theorem rcd_short (s : ByteArray) (h : s.size = 0) (w : World) :
    Calls Tryd.prog 12 #[.string s] w fun e w' => e = .returned (.tuple #[.int .u8 0, .int .i64 1]) ∧ w = w' := by
  have h1 := empty_list h
  have h2 : s.toList.isEmpty = true := by rw [h1]; rfl
  have h3 : (!s.toList.isEmpty) = false := by rw [h2]; rfl
  go_enter Tryd.func12, Tryd.ntmps12
  go_wp2
  go_ret2
  exact ⟨rfl, rfl⟩
theorem rcd_long (s : ByteArray) (hs : s.size ≤ 1000) (h : 18 < s.size) (w : World) :
    Calls Tryd.prog 12 #[.string s] w fun e w' => e = .returned (.tuple #[.int .u8 0, .int .i64 3]) ∧ w = w' := by
  have hn : s.toList.isEmpty = false := nonempty_list (by omega)
  have hn1 : ¬ s.toList = [] := by intro h; rw [h] at hn; simp at hn
  have hn2 : (!s.toList.isEmpty) = true := by rw [hn]; rfl
  go_enter Tryd.func12, Tryd.ntmps12
  go_wp2
  go_ret2
  exact ⟨rfl, rfl⟩
theorem rcd_form (s : ByteArray) (h1 : 0 < s.size) (h2 : s.size ≤ 18) (hd : ¬ Dgs s) (w : World) :
    Calls Tryd.prog 12 #[.string s] w fun e w' => e = .returned (.tuple #[.int .u8 0, .int .i64 2]) ∧ w = w' := by
  have hn : s.toList.isEmpty = false := nonempty_list (by omega)
  have hn1 : ¬ s.toList = [] := by intro h; rw [h] at hn; simp at hn
  have hn2 : (!s.toList.isEmpty) = true := by rw [hn]; rfl
  have C1 := Lib.hid (fun w => rdigits_no s (by omega) hd w)
  clear hd
  go_enter Tryd.func12, Tryd.ntmps12
  go_wp2_with (go_at_call 30; refine (C1.out _).mono ?_; rintro e w' ⟨rfl, rfl⟩)
  go_ret2
  exact ⟨rfl, rfl⟩
theorem rcd_ok (s : ByteArray) (h1 : 0 < s.size) (h2 : s.size ≤ 18) (hd : Dgs s) (w : World) :
    Calls Tryd.prog 12 #[.string s] w fun e w' => e = .returned (.tuple #[.int .u8 (48 + (cdN s : Int)), .int .i64 0]) ∧ w = w' := by
  have hn : s.toList.isEmpty = false := nonempty_list (by omega)
  have hn1 : ¬ s.toList = [] := by intro h; rw [h] at hn; simp at hn
  have hn2 : (!s.toList.isEmpty) = true := by rw [hn]; rfl
  have C1 := Lib.hid (fun w => rdigits_yes s (by omega) hd w)
  have C2 := Lib.hid (fun w => rsum_any s (by omega) hd 2 (by omega) (by omega) w)
  have hbd := lsum_bd s 2 hd s.size (Nat.le_refl _)
  have HC : Hid ((cdN s : Int) = (10 - lsum s 2 s.size % 10) % 10) := Lib.hid (by unfold cdN; omega)
  clear hd
  generalize lsum s 2 s.size = x at *
  go_enter Tryd.func12, Tryd.ntmps12
  go_wp2_with (first | (go_at_call 30; refine (C1.out _).mono ?_; rintro e w' ⟨rfl, rfl⟩) | (go_at_call 31; refine (C2.out _).mono ?_; rintro e w' ⟨rfl, rfl⟩))
  go_ret2
  exact ⟨ret_2 (by rw [HC.out]; omega), rfl⟩
theorem enc_one (c : Int) (h0 : 0 ≤ c) (h1 : c < 128) (w : World) : (convert 21 9 (.int .i32 c)).run Tryd.prog w = .ok (.string (one c)) w := by
  have hv : Utf8.valid c = true := by unfold Utf8.valid; simp; omega
  have he : Utf8.encode c = one c := by
    unfold Utf8.encode
    simp only [hv, if_true]
    rw [if_pos (by omega)]
    rfl
  simp [convert, run_underlying Tryd.underlying21, run_underlying Tryd.underlying9, Conv.intToString, he]
set_option maxHeartbeats 1000000 in
theorem cd_ok (s : ByteArray) (h1 : 0 < s.size) (h2 : s.size ≤ 18) (hd : Dgs s) (w : World) :
    Calls Tryd.prog 11 #[.string s] w fun e w' => e = .returned (.tuple #[.int .u8 (48 + (cdN s : Int)), .int .i64 0]) ∧ Below w.heap.size w w' := by
  have hn : s.toList.isEmpty = false := nonempty_list (by omega)
  have hn1 : ¬ s.toList = [] := by intro h; rw [h] at hn; simp at hn
  have hn2 : (!s.toList.isEmpty) = true := by rw [hn]; rfl
  have C1 := Lib.hid (fun w => digits_yes s (by omega) (by omega) hd w)
  have hcl := cd_le s
  have CL : Hid (∀ (q : Nat), q ≤ 9 → ∀ w, Calls Tryd.prog 13 #[.string (s ++ one (48 + (q : Int)))] w fun e w' => e = .returned (.bool (decide (q = cdN s))) ∧ Below w.heap.size w w') := Lib.hid fun q hq w =>
    luhn_dg _ (by rw [ByteArray.size_append, one_size]; omega) (by rw [ByteArray.size_append, one_size]; omega) (dgs_app hd (dgs_one q hq)) (Lib.hid (by rw [Bool.eq_iff_iff, decide_eq_true_eq, decide_eq_true_eq]; exact (cd_iff s q hq).symm)) w
  generalize cdN s = c at *
  clear hd
  go_enter Tryd.func11, Tryd.ntmps11
  go_wp2_with (go_at_call 29; refine (C1.out _).mono ?_; rintro e w' ⟨rfl, rfl⟩)
  go_loopw [4] (fun d wr => ∃ q : Nat, q ≤ c ∧ d = .int .u8 (48 + (q : Int)) ∧ Below w.heap.size w wr) (fun d _ => 57 - (intOf d).toNat)
  case atStart => exact ⟨0, Nat.zero_le _, rfl, Below.refl _ _⟩
  case round =>
    obtain ⟨q, hq, rfl, hb⟩ := hrel
    have HB := Lib.hid hb
    clear hb
    have hcv := fun w => enc_one (48 + (q : Int)) (by omega) (by omega) w
    have hz1 := one_size (48 + (q : Int))
    have CQ := Lib.hid (CL.out q (by omega))
    by_cases he : q = c
    · subst he
      have CQ2 : Hid (∀ w, Calls Tryd.prog 13 #[.string (s ++ one (48 + (q : Int)))] w fun e w' => e = .returned (.bool true) ∧ Below w.heap.size w w') := Lib.hid fun w => by have := CQ.out w; rw [decide_eq_true rfl] at this; exact this
      generalize one (48 + (q : Int)) = o at *
      go_wp2_with (go_at_call 13; refine (CQ2.out _).mono ?_; rintro e w1 ⟨rfl, hb1⟩)
      go_ret2
      exact ⟨rfl, HB.out.trans (hb1.mono HB.out.size)⟩
    · have CQ2 : Hid (∀ w, Calls Tryd.prog 13 #[.string (s ++ one (48 + (q : Int)))] w fun e w' => e = .returned (.bool false) ∧ Below w.heap.size w w') := Lib.hid fun w => by have := CQ.out w; rw [decide_eq_false he] at this; exact this
      have hq2 : q < c := by omega
      generalize one (48 + (q : Int)) = o at *
      go_wp2_with (go_at_call 13; refine (CQ2.out _).mono ?_; rintro e w1 ⟨rfl, hb1⟩)
      go_roundw
      case rel => exact ⟨q + 1, by omega, by go_num, HB.out.trans (hb1.mono HB.out.size)⟩
      case measure => simp [intOf]; omega
end Go.Proofs.YtddnfjaogekmjaaDoor

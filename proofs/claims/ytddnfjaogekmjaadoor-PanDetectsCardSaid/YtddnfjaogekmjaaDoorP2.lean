/-
  CONTRACTS of card numbers: sums, check digits, Check, the program's and the specification's.
-/
import Derived.Test.YtddnfjaogekmjaaDoorP1
namespace Go.Proofs.YtddnfjaogekmjaaDoor
open Go.RowKit
set_option linter.unusedVariables false
theorem empty_list {s : ByteArray} (h : s.size = 0) : s.toList = [] := by
  rw [ByteArray.toList_eq]
  exact List.eq_nil_of_length_eq_zero h
theorem luhn_empty (s : ByteArray) (h : s.size = 0) (w : World) : Calls Tryd.prog 13 #[.string s] w fun e w' => e = .returned (.bool false) ∧ Below w.heap.size w w' := by
  have h1 := empty_list h
  have h2 : s.toList.isEmpty = true := by rw [h1]; rfl
  have h3 : (!s.toList.isEmpty) = false := by rw [h2]; rfl
  go_enter Tryd.func13, Tryd.ntmps13
  go_wp2_with fail
  go_loopw [3] (fun sum wr => sum = .int .i64 0 ∧ wr = w.iter s 0) (fun _ wr => 0)
  case atStart => exact ⟨rfl, rfl⟩
  case round =>
    obtain ⟨rfl, rfl⟩ := hrel
    have hnx := fun ty => run_next_end (P := Tryd.prog) w s 0 ty (by omega)
    go_wp2_with fail
    go_ret
    exact ⟨rfl, (Below.refl _ _).alloc (Nat.le_refl _) _⟩
theorem digits_empty (s : ByteArray) (h : s.size = 0) (w : World) : Calls Tryd.prog 29 #[.string s] w fun e w' => e = .returned (.bool false) ∧ w = w' := by
  have h1 := empty_list h
  have h2 : s.toList.isEmpty = true := by rw [h1]; rfl
  have h3 : (!s.toList.isEmpty) = false := by rw [h2]; rfl
  go_enter Tryd.func29, Tryd.ntmps29
  go_wp2_with fail
  go_loop [3] (fun i => i = .int .i64 0) (fun i => 0)
  case atStart => rfl
  case round =>
    obtain rfl := hrel
    go_wp2
    go_ret
    exact ⟨rfl, rfl⟩
set_option maxHeartbeats 1600000 in
theorem rsum_any (s : ByteArray) (hs : s.size ≤ 1000) (hd : Dgs s) (f : Nat) (hf : f ≤ 2) (hf1 : 1 ≤ f) (w : World) :
    Calls Tryd.prog 31 #[.string s, .int .i64 (f : Int)] w fun e w' => e = .returned (.int .i64 (lsum s f s.size)) ∧ w = w' := by
  have HD := Lib.hid hd
  clear hd
  go_enter Tryd.func31, Tryd.ntmps31
  go_wp2_with fail
  go_loop [5, 6] (fun n i => ∃ k : Nat, k ≤ s.size ∧ i = .int .i64 k ∧ n = .int .i64 (lsum s f k) ∧ 0 ≤ lsum s f k ∧ lsum s f k ≤ 9 * k) (fun _ i => s.size - (intOf i).toNat)
  case atStart => exact ⟨0, Nat.zero_le _, rfl, rfl, by simp [lsum], by simp [lsum]⟩
  case round =>
    obtain ⟨k, hk, rfl, rfl, b0, b1⟩ := hrel
    by_cases hlt : k < s.size
    · have hdk := HD.out k hlt
      unfold dgAt at hdk
      obtain ⟨d0, d1⟩ := hdk
      have HG := Lib.hid (byt_get s k hlt)
      rw [HG.out] at d0 d1
      have HS : Hid (lsum s f (k + 1) = lsum s f k + cnt ((s[k].toNat : Int) - 48) (((s.size : Int) - 1 - (k : Int) + (f : Int)) % 2 == 0)) := Lib.hid (by rw [lsum, HG.out])
      obtain ⟨x, hx⟩ : ∃ x, x = lsum s f k := ⟨_, rfl⟩
      have HX := Lib.hid hx
      rw [← hx] at b0 b1 ⊢
      clear hx
      by_cases he : ((s.size : Int) - 1 - (k : Int) + (f : Int)) % 2 = 0
      · by_cases h9 : 9 < ((s[k].toNat : Int) - 48) * 2
        · have HV : Hid (lsum s f (k + 1) = x + (2 * ((s[k].toNat : Int) - 48) - 9)) := Lib.hid (by rw [HS.out, HX.out, he]; unfold cnt; simp [h9]; omega)
          have h92 : 9 < 2 * ((s[k].toNat : Int) - 48) := by omega
          clear h9
          go_wp2
          go_round
          case rel => exact ⟨k + 1, by omega, by go_num, val_int HV.out.symm, by rw [HV.out]; omega, by rw [HV.out]; omega⟩
          case measure => simp [intOf]; omega
        · have HV : Hid (lsum s f (k + 1) = x + 2 * ((s[k].toNat : Int) - 48)) := Lib.hid (by rw [HS.out, HX.out, he]; unfold cnt; simp [h9]; omega)
          have h92 : ¬ 9 < 2 * ((s[k].toNat : Int) - 48) := by omega
          clear h9
          go_wp2
          go_round
          case rel => exact ⟨k + 1, by omega, by go_num, val_int HV.out.symm, by rw [HV.out]; omega, by rw [HV.out]; omega⟩
          case measure => simp [intOf]; omega
      · have hb : (((s.size : Int) - 1 - (k : Int) + (f : Int)) % 2 == 0) = false := by simpa using he
        have h9 : ¬ 9 < (s[k].toNat : Int) - 48 := by omega
        have HV : Hid (lsum s f (k + 1) = x + ((s[k].toNat : Int) - 48)) := Lib.hid (by rw [HS.out, HX.out, hb]; unfold cnt; simp; omega)
        go_wp2
        go_round
        case rel => exact ⟨k + 1, by omega, by go_num, val_int HV.out.symm, by rw [HV.out]; omega, by rw [HV.out]; omega⟩
        case measure => simp [intOf]; omega
    · obtain rfl : k = s.size := by omega
      go_wp2
      go_ret
      exact ⟨rfl, rfl⟩
theorem rluhn_dg (s : ByteArray) (hs : s.size ≤ 1000) (h0 : 0 < s.size) (hd : Dgs s) {b : Bool} (HB : Hid (b = decide (lsum s 1 s.size % 10 = 0))) (w : World) :
    Calls Tryd.prog 14 #[.string s] w fun e w' => e = .returned (.bool b) ∧ w = w' := by
  have hn : s.toList.isEmpty = false := nonempty_list h0
  have hn2 : (!s.toList.isEmpty) = true := by rw [hn]; rfl
  have hbd := lsum_bd s 1 hd s.size (Nat.le_refl _)
  have C1 := Lib.hid (fun w => rdigits_yes s hs hd w)
  have C2 := Lib.hid (fun w => rsum_any s hs hd 1 (by omega) (by omega) w)
  clear hd
  generalize lsum s 1 s.size = x at *
  go_enter Tryd.func14, Tryd.ntmps14
  go_wp2_with (first | (go_at_call 30; refine (C1.out _).mono ?_; rintro e w' ⟨rfl, rfl⟩) | (go_at_call 31; refine (C2.out _).mono ?_; rintro e w' ⟨rfl, rfl⟩))
  go_ret
  exact ⟨ret_bool (by rw [HB.out, Bool.eq_iff_iff]; simp), rfl⟩
theorem rluhn_bad (s : ByteArray) (hs : s.size ≤ 1000) (hd : ¬ Dgs s) (w : World) :
    Calls Tryd.prog 14 #[.string s] w fun e w' => e = .returned (.bool false) ∧ w = w' := by
  have h0 : 0 < s.size := by
    rcases Nat.eq_zero_or_pos s.size with h | h
    · exact absurd (fun k hk => absurd hk (by omega)) hd
    · exact h
  have hn : s.toList.isEmpty = false := nonempty_list h0
  have hn2 : (!s.toList.isEmpty) = true := by rw [hn]; rfl
  have C1 := Lib.hid (fun w => rdigits_no s hs hd w)
  clear hd
  go_enter Tryd.func14, Tryd.ntmps14
  go_wp2_with (go_at_call 30; refine (C1.out _).mono ?_; rintro e w' ⟨rfl, rfl⟩)
  go_ret
  exact ⟨rfl, rfl⟩
theorem rluhn_empty (s : ByteArray) (h : s.size = 0) (w : World) : Calls Tryd.prog 14 #[.string s] w fun e w' => e = .returned (.bool false) ∧ w = w' := by
  have h1 := empty_list h
  have h2 : s.toList.isEmpty = true := by rw [h1]; rfl
  have h3 : (!s.toList.isEmpty) = false := by rw [h2]; rfl
  go_enter Tryd.func14, Tryd.ntmps14
  go_wp2
  go_ret
  exact ⟨rfl, rfl⟩
open Classical in
/-- What Check answers. -/
noncomputable def chkE (s : ByteArray) : Int := if s.size < 12 then 1 else if 19 < s.size then 3 else if ¬ Dgs s then 2 else if ¬ luhnP s then 9 else 0
theorem check_any (s : ByteArray) (hs : s.size ≤ 1000) (w : World) :
    Calls Tryd.prog 15 #[.string s] w fun e w' => e = .returned (.int .i64 (chkE s)) ∧ Below w.heap.size w w' := by
  by_cases h1 : s.size < 12
  · have HC : Hid (chkE s = 1) := Lib.hid (by rw [chkE, if_pos h1])
    go_enter Tryd.func15, Tryd.ntmps15
    go_wp2
    go_ret
    exact ⟨ret_int HC.out.symm, Below.refl _ _⟩
  by_cases h2 : 19 < s.size
  · have HC : Hid (chkE s = 3) := Lib.hid (by rw [chkE, if_neg h1, if_pos h2])
    go_enter Tryd.func15, Tryd.ntmps15
    go_wp2
    go_ret
    exact ⟨ret_int HC.out.symm, Below.refl _ _⟩
  by_cases hd : Dgs s
  · have C1 := Lib.hid (fun w => digits_yes s (by omega) (by omega) hd w)
    by_cases hl : luhnP s
    · have HC : Hid (chkE s = 0) := Lib.hid (by rw [chkE, if_neg h1, if_neg h2, if_neg (by simpa using hd), if_neg (by simpa using hl)])
      have C2 := Lib.hid (fun w => luhn_dg s (by omega) (by omega) hd (b := true) (Lib.hid (decide_eq_true (p := lsum s 1 s.size % 10 = 0) hl).symm) w)
      clear hd hl
      go_enter Tryd.func15, Tryd.ntmps15
      go_wp2_with (first | (go_at_call 29; refine (C1.out _).mono ?_; rintro e w' ⟨rfl, rfl⟩) | (go_at_call 13; refine (C2.out _).mono ?_; rintro e w1 ⟨rfl, hb⟩))
      go_ret
      exact ⟨ret_int HC.out.symm, by assumption⟩
    · have HC : Hid (chkE s = 9) := Lib.hid (by rw [chkE, if_neg h1, if_neg h2, if_neg (by simpa using hd), if_pos hl])
      have C2 := Lib.hid (fun w => luhn_dg s (by omega) (by omega) hd (b := false) (Lib.hid (decide_eq_false (p := lsum s 1 s.size % 10 = 0) hl).symm) w)
      clear hd hl
      go_enter Tryd.func15, Tryd.ntmps15
      go_wp2_with (first | (go_at_call 29; refine (C1.out _).mono ?_; rintro e w' ⟨rfl, rfl⟩) | (go_at_call 13; refine (C2.out _).mono ?_; rintro e w1 ⟨rfl, hb⟩))
      go_ret
      exact ⟨ret_int HC.out.symm, by assumption⟩
  · have HC : Hid (chkE s = 2) := Lib.hid (by rw [chkE, if_neg h1, if_neg h2, if_pos hd])
    have C1 := Lib.hid (fun w => digits_no s (by omega) hd w)
    clear hd
    go_enter Tryd.func15, Tryd.ntmps15
    go_wp2_with (go_at_call 29; refine (C1.out _).mono ?_; rintro e w' ⟨rfl, rfl⟩)
    go_ret
    exact ⟨ret_int HC.out.symm, Below.refl _ _⟩
theorem rcheck_any (s : ByteArray) (hs : s.size ≤ 1000) (w : World) :
    Calls Tryd.prog 16 #[.string s] w fun e w' => e = .returned (.int .i64 (chkE s)) ∧ w = w' := by
  by_cases h1 : s.size < 12
  · have HC : Hid (chkE s = 1) := Lib.hid (by rw [chkE, if_pos h1])
    go_enter Tryd.func16, Tryd.ntmps16
    go_wp2
    go_ret
    exact ⟨ret_int HC.out.symm, rfl⟩
  by_cases h2 : 19 < s.size
  · have HC : Hid (chkE s = 3) := Lib.hid (by rw [chkE, if_neg h1, if_pos h2])
    go_enter Tryd.func16, Tryd.ntmps16
    go_wp2
    go_ret
    exact ⟨ret_int HC.out.symm, rfl⟩
  by_cases hd : Dgs s
  · have C1 := Lib.hid (fun w => rdigits_yes s (by omega) hd w)
    by_cases hl : luhnP s
    · have HC : Hid (chkE s = 0) := Lib.hid (by rw [chkE, if_neg h1, if_neg h2, if_neg (by simpa using hd), if_neg (by simpa using hl)])
      have C2 := Lib.hid (fun w => rluhn_dg s (by omega) (by omega) hd (b := true) (Lib.hid (decide_eq_true (p := lsum s 1 s.size % 10 = 0) hl).symm) w)
      clear hd hl
      go_enter Tryd.func16, Tryd.ntmps16
      go_wp2_with (first | (go_at_call 30; refine (C1.out _).mono ?_; rintro e w' ⟨rfl, rfl⟩) | (go_at_call 14; refine (C2.out _).mono ?_; rintro e w' ⟨rfl, rfl⟩))
      go_ret
      exact ⟨ret_int HC.out.symm, rfl⟩
    · have HC : Hid (chkE s = 9) := Lib.hid (by rw [chkE, if_neg h1, if_neg h2, if_neg (by simpa using hd), if_pos hl])
      have C2 := Lib.hid (fun w => rluhn_dg s (by omega) (by omega) hd (b := false) (Lib.hid (decide_eq_false (p := lsum s 1 s.size % 10 = 0) hl).symm) w)
      clear hd hl
      go_enter Tryd.func16, Tryd.ntmps16
      go_wp2_with (first | (go_at_call 30; refine (C1.out _).mono ?_; rintro e w' ⟨rfl, rfl⟩) | (go_at_call 14; refine (C2.out _).mono ?_; rintro e w' ⟨rfl, rfl⟩))
      go_ret
      exact ⟨ret_int HC.out.symm, rfl⟩
  · have HC : Hid (chkE s = 2) := Lib.hid (by rw [chkE, if_neg h1, if_neg h2, if_pos hd])
    have C1 := Lib.hid (fun w => rdigits_no s (by omega) hd w)
    clear hd
    go_enter Tryd.func16, Tryd.ntmps16
    go_wp2_with (go_at_call 30; refine (C1.out _).mono ?_; rintro e w' ⟨rfl, rfl⟩)
    go_ret
    exact ⟨ret_int HC.out.symm, rfl⟩
end Go.Proofs.YtddnfjaogekmjaaDoor

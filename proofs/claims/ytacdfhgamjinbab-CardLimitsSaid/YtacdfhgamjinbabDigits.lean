/-
  CONTRACTS of the program's package text: a digit; a text of digits; for every string that fits in memory.
-/
import Derived.Test.YtacdfhgamjinbabChecked
import Derived.Test.YtacdfhgamjinbabPush
namespace Go.Proofs.Ytacdfhgamjinbab
open Go.RowKit
set_option linter.unusedVariables false
def digitB (c : Int) : Bool := decide (48 ≤ c ∧ c ≤ 57)
def digC (c : UInt8) : Bool := digitB c.toNat
def allB (p : UInt8 → Bool) (l : List UInt8) : Bool := l.all p
def Good (p : UInt8 → Bool) (s : ByteArray) (k : Nat) : Prop := (s.data.toList.take k).all p = true
theorem good_zero (p : UInt8 → Bool) (s : ByteArray) : Good p s 0 := rfl
theorem good_snoc {p : UInt8 → Bool} {s : ByteArray} {k : Nat} (h : Good p s k) (hk : k < s.size) (hp : p s[k] = true) : Good p s (k + 1) := by
  unfold Good at *
  have : s.data.toList.take (k + 1) = s.data.toList.take k ++ [s[k]] := by
    rw [List.take_succ_eq_append_getElem (by simpa using hk)]; rfl
  rw [this, List.all_append, h]; simpa using hp
theorem good_all {p : UInt8 → Bool} {s : ByteArray} {k : Nat} (h : Good p s k) (hk : ¬ k < s.size) : allB p s.data.toList = true := by
  unfold Good at h; unfold allB
  rwa [List.take_of_length_le (by simp only [Array.length_toList]; show s.size ≤ k; omega)] at h
theorem bad_all {p : UInt8 → Bool} {s : ByteArray} {k : Nat} (hk : k < s.size) (hp : p s[k] = false) : allB p s.data.toList = false := by
  unfold allB; rw [List.all_eq_false]
  exact ⟨s[k], by show s.data[k]'hk ∈ _; simp, by simp [hp]⟩
theorem toList_data (s : ByteArray) : s.toList = s.data.toList := by rw [ByteArray.toList_eq]
theorem digit_any (c : Int) (h0 : 0 ≤ c) (h1 : c ≤ 255) (w : World) :
    Calls Try.prog 41 #[.int .u8 c] w fun e w' => e = .returned (.bool (digitB c)) ∧ w = w' := by
  go_enter Try.func41, Try.ntmps41
  go_wp2
  all_goals go_ret
  all_goals exact ⟨ret_bool (by unfold digitB; rw [Bool.eq_iff_iff]; simp; omega), rfl⟩
set_option maxHeartbeats 400000 in
/-- text.Digits: digits alone, and at least one. -/
theorem digits_walk (s : ByteArray) (hs : s.size ≤ maxLen) (w : World) {b : Bool} (HB : Hid (b = allB digC s.data.toList)) (hn : s.toList.isEmpty = false) (hn2 : (!s.toList.isEmpty) = true) :
    Calls Try.prog 37 #[.string s] w fun e w' => e = .returned (.bool b) ∧ w = w' := by
  unfold maxLen at hs
  go_enter Try.func37, Try.ntmps37
  go_wp2_with fail
  go_loop [3] (fun i => ∃ k : Nat, k ≤ s.size ∧ i = .int .i64 k ∧ Good digC s k) (fun i => s.size - (intOf i).toNat)
  case atStart => exact ⟨0, Nat.zero_le _, rfl, good_zero _ _⟩
  case round =>
    obtain ⟨k, hk, rfl, hg⟩ := hrel
    by_cases hlt : k < s.size
    · have hb : s[k].toNat < 256 := s[k].toNat_lt
      have HGO := Lib.hid (fun h : digC s[k] = true => good_snoc hg hlt h)
      have HNO := Lib.hid (fun h : digC s[k] = false => bad_all hlt h)
      clear hg
      cases hD : digitB ↑s[k].toNat with
      | true =>
        go_wp2_with (go_at_call 41; refine (digit_any _ (by omega) (by omega) _).mono ?_; rintro e w' ⟨rfl, rfl⟩)
        go_round
        case rel => exact ⟨k + 1, by omega, by go_num, HGO.out hD⟩
        case measure => simp [intOf]; omega
      | false =>
        go_wp2_with (go_at_call 41; refine (digit_any _ (by omega) (by omega) _).mono ?_; rintro e w' ⟨rfl, rfl⟩)
        go_ret
        exact ⟨ret_bool (by rw [HB.out]; exact (HNO.out hD).symm), rfl⟩
    · have HA : Hid (allB digC s.data.toList = true) := good_all hg hlt
      clear hg
      go_wp2
      go_ret
      exact ⟨ret_bool (by rw [HB.out]; exact HA.out.symm), rfl⟩
end Go.Proofs.Ytacdfhgamjinbab

/-
  CONTRACTS of identifications and currencies, the program's and the specification's: both are told by one plain function on lists of bytes.
-/
import Derived.Test.YtmigodjkenhedaaText
import Derived.Deep.QuietTactic
import Derived.BigQuiet
namespace Go.Proofs.Ytmigodjkenhedaa
open Go.RowKit
set_option linter.unusedVariables false

def identI (c : UInt8) : Bool := letterB c.toNat || digitB c.toNat || decide ((c.toNat : Int) = 95) || decide ((c.toNat : Int) = 45)
def capI (c : UInt8) : Bool := decide (65 ≤ (c.toNat : Int) ∧ (c.toNat : Int) ≤ 90)
/-- Every byte passes. -/
def allB (p : UInt8 → Bool) (l : List UInt8) : Bool := l.all p
def identB (l : List UInt8) (n : Int) : Bool := !l.isEmpty && decide ((l.length : Int) ≤ n) && allB identI l
def curB (l : List UInt8) : Bool := decide (l.length = 3) && allB capI l
/-- The first k bytes pass. -/
def Good (p : UInt8 → Bool) (s : ByteArray) (k : Nat) : Prop := (s.data.toList.take k).all p = true
theorem good_zero (p : UInt8 → Bool) (s : ByteArray) : Good p s 0 := rfl
theorem good_snoc {p : UInt8 → Bool} {s : ByteArray} {k : Nat} (h : Good p s k) (hk : k < s.size) (hp : p s[k] = true) : Good p s (k + 1) := by
  unfold Good at *
  have : s.data.toList.take (k + 1) = s.data.toList.take k ++ [s[k]] := by
    rw [List.take_succ_eq_append_getElem (by simpa using hk)]; rfl
  rw [this, List.all_append, h]; simpa using hp
theorem good_all {p : UInt8 → Bool} {s : ByteArray} {k : Nat} (h : Good p s k) (hk : ¬ k < s.size) : allB p s.data.toList = true := by
  unfold Good at h; unfold allB
  rwa [List.take_of_length_le (by simp only [Array.length_toList]; show s.size ≤ k; omega)] at h
theorem bad_all {p : UInt8 → Bool} {s : ByteArray} {k : Nat} (hk : k < s.size) (hp : p s[k] = false) : allB p s.data.toList = false := by
  unfold allB; rw [List.all_eq_false]
  exact ⟨s[k], by show s.data[k]'hk ∈ _; simp, by simp [hp]⟩
theorem len_size (s : ByteArray) : s.data.toList.length = s.size := by simp only [Array.length_toList]; rfl
theorem toList_data (s : ByteArray) : s.toList = s.data.toList := by rw [ByteArray.toList_eq]

theorem ident_empty (s t : ByteArray) (n : Int) (w : World) (h1 : s.toList = []) :
    Calls Try.prog 25 #[.string s, .int .i64 n, .string t] w fun e w' => e = .returned (.bool false) ∧ w = w' := by
  go_enter Try.func25, Try.ntmps25
  go_wp2
  go_ret
  exact ⟨rfl, rfl⟩
theorem ident_long (s t : ByteArray) (hs : s.size ≤ maxLen) (n : Int) (w : World) (h1 : s.toList.isEmpty = false) (h2 : n < s.size) :
    Calls Try.prog 25 #[.string s, .int .i64 n, .string t] w fun e w' => e = .returned (.bool false) ∧ w = w' := by
  unfold maxLen at hs
  go_enter Try.func25, Try.ntmps25
  go_wp2
  go_ret
  exact ⟨rfl, rfl⟩
set_option maxHeartbeats 1000000 in
theorem ident_walk (s : ByteArray) (hs : s.size ≤ maxLen) (n : Int) (w : World) (h1 : s.toList.isEmpty = false) (h2 : ↑s.size ≤ n) :
    Calls Try.prog 25 #[.string s, .int .i64 n, .string ByteArray.empty] w fun e w' => e = .returned (.bool (allB identI s.data.toList)) ∧ w = w' := by
  unfold maxLen at hs
  go_enter Try.func25, Try.ntmps25
  go_wp2_with fail
  go_loop [7] (fun i => ∃ k : Nat, k ≤ s.size ∧ i = .int .i64 k ∧ Good identI s k) (fun i => s.size - (intOf i).toNat)
  case atStart => exact ⟨0, Nat.zero_le _, rfl, good_zero _ _⟩
  case round =>
    obtain ⟨k, hk, rfl, hg⟩ := hrel
    by_cases hlt : k < s.size
    · have hb : s[k].toNat < 256 := s[k].toNat_lt
      have hgo : identI s[k] = true → Good identI s (k + 1) := good_snoc hg hlt
      have hno : identI s[k] = false → allB identI s.data.toList = false := bad_all hlt
      have HGO := Lib.hid hgo
      have HNO := Lib.hid hno
      clear hgo hno hg
      cases hL : letterB ↑s[k].toNat with
      | true =>
        have HG : Hid (Good identI s (k + 1)) := HGO.out (by simp [identI, hL])
        clear HGO HNO
        go_wp2_with (go_at_call 38; refine (letter_any _ (by omega) (by omega) _).mono ?_; rintro e w' ⟨rfl, rfl⟩)
        go_round
        case rel => exact ⟨k + 1, by omega, by go_num, HG.out⟩
        case measure => simp [intOf]; omega
      | false =>
      cases hD : digitB ↑s[k].toNat with
      | true =>
        have HG : Hid (Good identI s (k + 1)) := HGO.out (by simp [identI, hD])
        clear HGO HNO
        go_wp2_with (first | (go_at_call 38; refine (letter_any _ (by omega) (by omega) _).mono ?_; rintro e w' ⟨rfl, rfl⟩) | (go_at_call 39; refine (digit_any _ (by omega) (by omega) _).mono ?_; rintro e w' ⟨rfl, rfl⟩))
        go_round
        case rel => exact ⟨k + 1, by omega, by go_num, HG.out⟩
        case measure => simp [intOf]; omega
      | false =>
      by_cases h95 : (s[k].toNat : Int) = 95
      · have HG : Hid (Good identI s (k + 1)) := HGO.out (by simp [identI, h95])
        have e95 : ((s[k].toNat : Int) != 95) = false := by simp [h95]
        clear HGO HNO h95
        go_wp2_with (first | (go_at_call 38; refine (letter_any _ (by omega) (by omega) _).mono ?_; rintro e w' ⟨rfl, rfl⟩) | (go_at_call 39; refine (digit_any _ (by omega) (by omega) _).mono ?_; rintro e w' ⟨rfl, rfl⟩))
        go_round
        case rel => exact ⟨k + 1, by omega, by go_num, HG.out⟩
        case measure => simp [intOf]; omega
      have e95 : ((s[k].toNat : Int) != 95) = true := by simp [h95]
      by_cases h45 : (s[k].toNat : Int) = 45
      · have HG : Hid (Good identI s (k + 1)) := HGO.out (by simp [identI, h45])
        have e45 : ((s[k].toNat : Int) != 45) = false := by simp [h45]
        clear HGO HNO h45 h95
        go_wp2_with (first | (go_at_call 38; refine (letter_any _ (by omega) (by omega) _).mono ?_; rintro e w' ⟨rfl, rfl⟩) | (go_at_call 39; refine (digit_any _ (by omega) (by omega) _).mono ?_; rintro e w' ⟨rfl, rfl⟩))
        go_round
        case rel => exact ⟨k + 1, by omega, by go_num, HG.out⟩
        case measure => simp [intOf]; omega
      have e45 : ((s[k].toNat : Int) != 45) = true := by simp [h45]
      have HA : Hid (allB identI s.data.toList = false) := HNO.out (by simp [identI, hL, hD, h95, h45])
      clear HGO HNO h95 h45
      go_wp2_with (first | (go_at_call 38; refine (letter_any _ (by omega) (by omega) _).mono ?_; rintro e w' ⟨rfl, rfl⟩) | (go_at_call 39; refine (digit_any _ (by omega) (by omega) _).mono ?_; rintro e w' ⟨rfl, rfl⟩) | (go_at_call 40; refine (has_none _ (by omega) (by omega) _).mono ?_; rintro e w' ⟨rfl, rfl⟩))
      go_ret
      exact ⟨ret_bool HA.out.symm, rfl⟩
    · have HA : Hid (allB identI s.data.toList = true) := good_all hg hlt
      clear hg
      go_wp2
      go_ret
      exact ⟨ret_bool HA.out.symm, rfl⟩
/-- text.Ident, nothing besides letters, digits, underscores and hyphens. -/
theorem ident_any (s : ByteArray) (hs : s.size ≤ maxLen) (n : Int) (w : World) :
    Calls Try.prog 25 #[.string s, .int .i64 n, .string ByteArray.empty] w fun e w' => e = .returned (.bool (identB s.data.toList n)) ∧ w = w' := by
  by_cases h1 : s.data.toList = []
  · refine (ident_empty s _ n w (by rw [toList_data]; exact h1)).mono fun e w' h => ⟨?_, h.2⟩
    rw [h.1]; simp [identB, h1]
  · have h1' : s.toList.isEmpty = false := by rw [toList_data]; simpa using h1
    by_cases h2 : n < s.size
    · refine (ident_long s _ hs n w h1' h2).mono fun e w' h => ⟨?_, h.2⟩
      rw [h.1]; unfold identB; rw [len_size]; simp; intro _ h; omega
    · refine (ident_walk s hs n w h1' (by omega)).mono fun e w' h => ⟨?_, h.2⟩
      rw [h.1]; unfold identB; rw [len_size]; rw [toList_data] at h1'; rw [h1', decide_eq_true (by omega : (s.size : Int) ≤ n)]; rfl

theorem size3 {s : ByteArray} (h : s.size = 3) : s.data.toList = [s[0]'(by omega), s[1]'(by omega), s[2]'(by omega)] := by
  obtain ⟨⟨l⟩⟩ := s
  match l, h with
  | [a, b, c], _ => rfl
theorem cur3 {s : ByteArray} (h : s.size = 3) (h0 : 0 < s.size) (h1 : 1 < s.size) (h2 : 2 < s.size) : curB s.data.toList = (capI s[0] && (capI s[1] && capI s[2])) := by
  rw [size3 h]; simp [curB, allB]
theorem cur_other {s : ByteArray} (h : ¬ s.size = 3) : curB s.data.toList = false := by
  have : ¬ s.data.toList.length = 3 := by rw [len_size]; exact h
  simp only [curB, decide_eq_false this, Bool.false_and]
theorem cur_all {s : ByteArray} (h : s.size = 3) : curB s.data.toList = allB capI s.data.toList := by
  have : s.data.toList.length = 3 := by rw [len_size]; exact h
  simp only [curB, decide_eq_true this, Bool.true_and]

set_option maxHeartbeats 400000 in
/-- text.Currency. -/
theorem currency_any (s : ByteArray) (hs : s.size ≤ maxLen) (w : World) :
    Calls Try.prog 26 #[.string s] w fun e w' => e = .returned (.bool (curB s.data.toList)) ∧ w = w' := by
  unfold maxLen at hs
  by_cases h3 : s.size = 3
  · have HC := Lib.hid (cur_all h3)
    have e3 : ((s.size : Int) != 3) = false := by simp; omega
    have hlo : 3 ≤ s.size := by omega
    have hhi : s.size ≤ 3 := by omega
    clear h3
    go_enter Try.func26, Try.ntmps26
    go_wp2_with fail
    go_loop [3] (fun i => ∃ k : Nat, k ≤ 3 ∧ i = .int .i64 k ∧ Good capI s k) (fun i => 3 - (intOf i).toNat)
    case atStart => exact ⟨0, Nat.zero_le _, rfl, good_zero _ _⟩
    case round =>
      obtain ⟨k, hk, rfl, hg⟩ := hrel
      by_cases hlt : k < 3
      · have hks : k < s.size := by omega
        have hgo : capI s[k] = true → Good capI s (k + 1) := good_snoc hg hks
        have hno : capI s[k] = false → allB capI s.data.toList = false := bad_all hks
        have HGO := Lib.hid hgo
        have HNO := Lib.hid hno
        clear hgo hno hg
        by_cases hc1 : (s[k].toNat : Int) < 65
        · go_wp2
          go_ret
          exact ⟨ret_bool (by rw [HC.out]; exact (HNO.out (by unfold capI; simp; omega)).symm), rfl⟩
        by_cases hc2 : 90 < (s[k].toNat : Int)
        · go_wp2
          go_ret
          exact ⟨ret_bool (by rw [HC.out]; exact (HNO.out (by unfold capI; simp; omega)).symm), rfl⟩
        go_wp2
        go_round
        case rel => exact ⟨k + 1, by omega, by go_num, HGO.out (by unfold capI; simp; omega)⟩
        case measure => simp [intOf]; omega
      · have HA : Hid (allB capI s.data.toList = true) := good_all hg (by omega)
        clear hg
        go_wp2
        go_ret
        exact ⟨ret_bool (by rw [HC.out]; exact HA.out.symm), rfl⟩
  · have HC := Lib.hid (cur_other h3)
    have e3 : ((s.size : Int) != 3) = true := by simp; omega
    go_enter Try.func26, Try.ntmps26
    go_wp2
    go_ret
    exact ⟨ret_bool HC.out.symm, rfl⟩
end Go.Proofs.Ytmigodjkenhedaa

/-
  CONTRACTS of dates: digits, the number of some digits, the program's Parse.
-/
import Derived.Test.YtaagifggeafgnaaDoorC13
import Derived.Deep.QuietTactic
import Derived.BigQuiet
namespace Go.Proofs.YtaagifggeafgnaaDoor
open Go.RowKit
set_option linter.unusedVariables false
set_option linter.unusedSimpArgs false
theorem nonempty_list {s : ByteArray} (h : 0 < s.size) : s.toList.isEmpty = false := by
  rw [ByteArray.toList_eq]
  cases hl : s.data.toList with
  | nil => exfalso; have : s.data.toList.length = 0 := by rw [hl]; rfl
           have h2 : s.data.toList.length = s.size := rfl
           omega
  | cons a l => rfl
theorem snoc_dg {s : ByteArray} {k : Nat} (h : ∀ j, j < k → dgAt s j) (hk : dgAt s k) : ∀ j, j < k + 1 → dgAt s j := fun j hj => by
  rcases Nat.lt_or_ge j k with h1 | h1
  · exact h j h1
  · obtain rfl : j = k := by omega
    exact hk
def digitB (c : Int) : Bool := decide (48 ≤ c ∧ c ≤ 57)
theorem digit_any (c : Int) (h0 : 0 ≤ c) (h1 : c ≤ 255) (w : World) :
    Calls Tryd.prog 44 #[.int .u8 c] w fun e w' => e = .returned (.bool (digitB c)) ∧ w = w' := by
  by_cases h2 : 48 ≤ c
  · by_cases h3 : c ≤ 57
    · have HD : Hid (digitB c = true) := Lib.hid (decide_eq_true ⟨h2, h3⟩)
      go_enter Tryd.func44, Tryd.ntmps44
      go_wp2
      go_ret
      exact ⟨ret_bool HD.out.symm, rfl⟩
    · have HD : Hid (digitB c = false) := Lib.hid (decide_eq_false fun h => h3 h.2)
      go_enter Tryd.func44, Tryd.ntmps44
      go_wp2
      go_ret
      exact ⟨ret_bool HD.out.symm, rfl⟩
  · have HD : Hid (digitB c = false) := Lib.hid (decide_eq_false fun h => h2 h.1)
    go_enter Tryd.func44, Tryd.ntmps44
    go_wp2
    go_ret
    exact ⟨ret_bool HD.out.symm, rfl⟩
set_option maxHeartbeats 800000 in
theorem digits_yes (s : ByteArray) (hs : s.size ≤ 1000) (h0 : 0 < s.size) (hd : Dgs s) (w : World) :
    Calls Tryd.prog 39 #[.string s] w fun e w' => e = .returned (.bool true) ∧ w = w' := by
  have hn : s.toList.isEmpty = false := nonempty_list h0
  have hn2 : (!s.toList.isEmpty) = true := by rw [hn]; rfl
  have HD := Lib.hid hd
  clear hd
  go_enter Tryd.func39, Tryd.ntmps39
  go_wp2_with fail
  go_loop [3] (fun i => ∃ k : Nat, k ≤ s.size ∧ i = .int .i64 k) (fun i => s.size - (intOf i).toNat)
  case atStart => exact ⟨0, Nat.zero_le _, rfl⟩
  case round =>
    obtain ⟨k, hk, rfl⟩ := hrel


    by_cases hlt : k < s.size
    · have hb256 : s[k].toNat < 256 := s[k].toNat_lt
      have hdk := HD.out k hlt
      unfold dgAt at hdk
      rw [byt_get s k hlt] at hdk
      obtain ⟨d0, d1⟩ := hdk
      have hD : digitB (s[k].toNat : Int) = true := by unfold digitB; exact decide_eq_true ⟨d0, d1⟩
      go_wp2_with (go_at_call 44; refine (digit_any _ (by omega) (by omega) _).mono ?_; rintro e w' ⟨rfl, rfl⟩)
      go_round
      case rel => exact ⟨k + 1, by omega, by go_num⟩
      case measure => simp [intOf]; omega
    · go_wp2
      go_ret
      exact ⟨rfl, rfl⟩
set_option maxHeartbeats 800000 in
theorem digits_no (s : ByteArray) (hs : s.size ≤ 1000) (hd : ¬ Dgs s) (w : World) :
    Calls Tryd.prog 39 #[.string s] w fun e w' => e = .returned (.bool false) ∧ w = w' := by
  have HD := Lib.hid hd
  clear hd
  go_enter Tryd.func39, Tryd.ntmps39
  go_wp2_with fail
  go_loop [3] (fun i => ∃ k : Nat, k ≤ s.size ∧ i = .int .i64 k ∧ (∀ j, j < k → dgAt s j)) (fun i => s.size - (intOf i).toNat)
  case atStart => exact ⟨0, Nat.zero_le _, rfl, fun j h => absurd h (by omega)⟩
  case round =>
    obtain ⟨k, hk, rfl, hall⟩ := hrel
    have HALL := Lib.hid hall
    clear hall
    by_cases hlt : k < s.size
    · have hb256 : s[k].toNat < 256 := s[k].toNat_lt
      by_cases hdk : dgAt s k
      · have HDK := Lib.hid hdk
        unfold dgAt at hdk
        rw [byt_get s k hlt] at hdk
        obtain ⟨d0, d1⟩ := hdk
        have hD : digitB (s[k].toNat : Int) = true := by unfold digitB; exact decide_eq_true ⟨d0, d1⟩
        go_wp2_with (go_at_call 44; refine (digit_any _ (by omega) (by omega) _).mono ?_; rintro e w' ⟨rfl, rfl⟩)
        go_round
        case rel => exact ⟨k + 1, by omega, by go_num, snoc_dg HALL.out HDK.out⟩
        case measure => simp [intOf]; omega
      · unfold dgAt at hdk
        rw [byt_get s k hlt] at hdk
        have hD : digitB (s[k].toNat : Int) = false := by unfold digitB; exact decide_eq_false hdk
        go_wp2_with (go_at_call 44; refine (digit_any _ (by omega) (by omega) _).mono ?_; rintro e w' ⟨rfl, rfl⟩)
        go_ret
        exact ⟨rfl, rfl⟩
    · exact absurd (fun j hj => HALL.out j (by omega)) HD.out

/-- The number that k bytes write from a place on. -/
def nv (s : ByteArray) (a : Nat) : Nat → Int
  | 0 => 0
  | k + 1 => nv s a k * 10 + (byt s (a + k) - 48)
theorem nv_bd {s : ByteArray} {a : Nat} : ∀ {k : Nat}, (∀ j, j < k → dgAt s (a + j)) → 0 ≤ nv s a k ∧ nv s a k < 10 ^ k
  | 0, _ => by simp [nv]
  | k + 1, h => by
    have h1 := nv_bd (s := s) (a := a) (k := k) fun j hj => h j (by omega)
    have h2 := h k (by omega)
    unfold dgAt at h2
    rw [nv, Int.pow_succ]
    omega
theorem nv_ext {s t : ByteArray} {a b : Nat} : ∀ {k : Nat}, (∀ j, j < k → byt s (a + j) = byt t (b + j)) → nv s a k = nv t b k
  | 0, _ => rfl
  | k + 1, h => by rw [nv, nv, nv_ext (k := k) (fun j hj => h j (by omega)), h k (by omega)]
set_option maxHeartbeats 800000 in
theorem number_any (t : ByteArray) (ht : t.size ≤ 4) (hd : Dgs t) (w : World) : Calls Tryd.prog 40 #[.string t] w fun e w' => e = .returned (.int .i64 (nv t 0 t.size)) ∧ w = w' := by
  have HD := Lib.hid hd
  clear hd
  go_enter Tryd.func40, Tryd.ntmps40
  go_wp2_with fail
  go_loop [3, 4] (fun n i => ∃ k : Nat, k ≤ t.size ∧ i = .int .i64 (k : Int) ∧ n = .int .i64 (nv t 0 k)) (fun _ i => t.size - (intOf i).toNat)
  case atStart => exact ⟨0, Nat.zero_le _, rfl, rfl⟩
  case round =>
    obtain ⟨k, hk, rfl, rfl⟩ := hrel
    by_cases hlt : k < t.size
    · have hdk := HD.out k hlt
      unfold dgAt at hdk
      obtain ⟨d0, d1⟩ := hdk
      have hb := nv_bd (s := t) (a := 0) (k := k) (fun j hj => by rw [Nat.zero_add]; exact HD.out j (by omega))
      have hp : (10 : Int) ^ k ≤ 1000 := by
        have : k ≤ 3 := by omega
        rcases k with _ | _ | _ | _ | k <;> first | decide | omega
      obtain ⟨b0, b1⟩ := hb
      have b2 : nv t 0 k < 1000 := by omega
      clear b1 hp
      have hix := fun w => ix_at t k hlt (i := (k : Int)) rfl w
      have HS : Hid (nv t 0 (k + 1) = nv t 0 k * 10 + (byt t k - 48)) := Lib.hid (by rw [nv, Nat.zero_add])
      generalize byt t k = c at *
      generalize nv t 0 k = v at *
      go_wp2
      go_round
      case rel => exact ⟨k + 1, by omega, by go_num, val_int (by rw [HS.out])⟩
      case measure => simp [intOf]; omega
    · obtain rfl : k = t.size := by omega
      go_wp2
      go_ret
      exact ⟨rfl, rfl⟩
end Go.Proofs.YtaagifggeafgnaaDoor

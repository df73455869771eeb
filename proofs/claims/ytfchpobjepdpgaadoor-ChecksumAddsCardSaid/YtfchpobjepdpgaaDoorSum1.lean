/-
  CONTRACTS of the checksum: Crc, the program's and the specification's: for every string that fits in memory.
-/
import Derived.Test.YtfchpobjepdpgaaDoorChecked
import Derived.Test.YtfchpobjepdpgaaDoorCrcMath
import Derived.WalkKit
import Derived.Below
import Derived.Lib.Hide
namespace Go.Proofs.YtfchpobjepdpgaaDoor
open Go.RowKit
set_option linter.unusedVariables false
theorem ret_val {k : IntKind} {a b : Int} (h : a = b) : Ending.returned (.int k a) = .returned (.int k b) := by rw [h]
theorem ret_boolv {a b : Bool} (h : a = b) : Ending.returned (.bool a) = .returned (.bool b) := by rw [h]
theorem ret_str {a b : ByteArray} (h : a = b) : Ending.returned (.string a) = .returned (.string b) := by rw [h]
theorem val_eq {k : IntKind} {a b : Int} (h : a = b) : Value.int k a = Value.int k b := by rw [h]
theorem x0 (r b : Nat) (hr : r < 4294967296) (hb : b < 256) : bits .xor .u32 (r : Int) (b : Int) = ((r ^^^ b : Nat) : Int) := u32_xor_nat r b hr (by omega)
theorem x1 (r : Nat) (hr : r < 4294967296) : bits .and .u32 (r : Int) 1 = ((r % 2 : Nat) : Int) := by
  have := u32_and_nat r 1 hr (by omega)
  rw [nat_mask1] at this
  exact this
theorem x2 (r : Nat) (hr : r < 4294967296) : bits .xor .u32 ((r : Int) / 2) 3988292384 = ((r / 2 ^^^ 3988292384 : Nat) : Int) := u32_xor_nat (r / 2) 3988292384 (by omega) (by omega)
theorem x3 (r : Nat) (hr : r < 4294967296) : bits .xor .u32 (r : Int) 4294967295 = ((r ^^^ 4294967295 : Nat) : Int) := u32_xor_nat r 4294967295 hr (by omega)
theorem x4 (r : Nat) (hr : r < 4294967296) : bits .xor .u32 IntKind.u32.max (r : Int) = ((r ^^^ 4294967295 : Nat) : Int) := by
  have := u32_xor_nat 4294967295 r (by omega) hr
  rw [Nat.xor_comm] at this
  exact this
theorem z1 (r : Nat) (hr : r < 4294967296) (h : r % 2 = 1) : bits .xor .u32 ((r : Int) / 2) 3988292384 = ((stepN r : Nat) : Int) := by
  unfold stepN
  rw [if_pos h, x2 r hr]
theorem z2 (r : Nat) (h : ¬ r % 2 = 1) : (r : Int) / 2 = ((stepN r : Nat) : Int) := by
  unfold stepN
  rw [if_neg h]
  rfl
theorem y1 (r : Nat) (hr : r < 4294967296) (h : (bits .and .u32 (r : Int) 1 == 1) = true) : bits .xor .u32 ((r : Int) / 2) 3988292384 = ((stepN r : Nat) : Int) := z1 r hr (by rw [x1 r hr] at h; simp at h; omega)
theorem y2 (r : Nat) (hr : r < 4294967296) (h : (bits .and .u32 (r : Int) 1 == 1) = false) : (r : Int) / 2 = ((stepN r : Nat) : Int) := z2 r (by rw [x1 r hr] at h; simp at h; omega)
theorem y3 (r : Nat) (hr : r < 4294967296) (h : ((r : Int) % 2 == 1) = true) : bits .xor .u32 ((r : Int) / 2) 3988292384 = ((stepN r : Nat) : Int) := z1 r hr (by simp at h; omega)
theorem y4 (r : Nat) (hr : r < 4294967296) (h : ((r : Int) % 2 == 1) = false) : (r : Int) / 2 = ((stepN r : Nat) : Int) := z2 r (by simp at h; omega)
theorem y5 (k : Nat) : Value.int .i64 ((k : Int) + 1) = Value.int .i64 ((k + 1 : Nat) : Int) := rfl
theorem crc_any (s : ByteArray) (hs : s.size ≤ maxLen) (w : World) :
    Calls Tryd.prog 10 #[.string s] w fun e w' => e = .returned (.int .u32 (crcN s : Int)) ∧ w = w' := by
  unfold maxLen at hs
  go_enter Tryd.func10, Tryd.ntmps10
  go_wp2_with fail
  go_loop [3, 4] (fun r i => ∃ k : Nat, k ≤ s.size ∧ i = .int .i64 k ∧ r = .int .u32 (regN s k : Int)) (fun _ i => s.size - (intOf i).toNat)
  case atStart => exact ⟨0, Nat.zero_le _, rfl, rfl⟩
  case round =>
    obtain ⟨k, hk, rfl, rfl⟩ := hrel
    by_cases hlt : k < s.size
    · have hb : s[k].toNat < 256 := s[k].toNat_lt
      have hr := regN_lt s k
      have HS := Lib.hid (regN_succ s k hlt)
      go_wp2_with fail
      rw [x0 _ _ hr hb]
      have hq : regN s k ^^^ s[k].toNat < 4294967296 := Nat.xor_lt_two_pow (n := 32) (by omega) (by omega)
      generalize hqq : regN s k ^^^ s[k].toNat = q at *
      have HQ := Lib.hid hqq.symm
      clear hqq
      go_loop [3, 18] (fun r c => ∃ j : Nat, j ≤ 8 ∧ c = .int .i64 j ∧ r = .int .u32 (stepsN j q : Int)) (fun _ c => 8 - (intOf c).toNat)
      case atStart => exact ⟨0, Nat.zero_le _, rfl, rfl⟩
      case round =>
        obtain ⟨j, hj, rfl, rfl⟩ := hrel
        by_cases hjt : j < 8
        · have hq1 := stepsN_lt j hq
          have hs1 := stepsN_succ j q
          generalize stepsN j q = r at *
          go_wp2
          all_goals
            rename_i hP
            exact ⟨⟨j + 1, by omega, y5 j, val_eq (by rw [hs1]; first | exact y1 _ hq1 hP | exact y2 _ hq1 hP | exact y3 _ hq1 hP | exact y4 _ hq1 hP)⟩, by simp [intOf]; omega⟩
        · obtain rfl : j = 8 := by omega
          go_wp2
          exact ⟨⟨k + 1, by omega, y5 k, val_eq (by rw [HS.out, HQ.out]; rfl)⟩, by simp [intOf]; omega⟩
    · have hr := regN_lt s k
      have HE := Lib.hid (regN_end s k hlt)
      go_wp2
      go_ret
      exact ⟨ret_val (by rw [← HE.out]; first | exact x4 _ hr | exact x3 _ hr), rfl⟩
theorem rcrc_any (s : ByteArray) (hs : s.size ≤ maxLen) (w : World) :
    Calls Tryd.prog 11 #[.string s] w fun e w' => e = .returned (.int .u32 (crcN s : Int)) ∧ w = w' := by
  unfold maxLen at hs
  go_enter Tryd.func11, Tryd.ntmps11
  go_wp2_with fail
  go_loop [3, 4] (fun r i => ∃ k : Nat, k ≤ s.size ∧ i = .int .i64 k ∧ r = .int .u32 (regN s k : Int)) (fun _ i => s.size - (intOf i).toNat)
  case atStart => exact ⟨0, Nat.zero_le _, rfl, rfl⟩
  case round =>
    obtain ⟨k, hk, rfl, rfl⟩ := hrel
    by_cases hlt : k < s.size
    · have hb : s[k].toNat < 256 := s[k].toNat_lt
      have hr := regN_lt s k
      have HS := Lib.hid (regN_succ s k hlt)
      go_wp2_with fail
      rw [x0 _ _ hr hb]
      have hq : regN s k ^^^ s[k].toNat < 4294967296 := Nat.xor_lt_two_pow (n := 32) (by omega) (by omega)
      generalize hqq : regN s k ^^^ s[k].toNat = q at *
      have HQ := Lib.hid hqq.symm
      clear hqq
      go_loop [3, 5] (fun r c => ∃ j : Nat, j ≤ 8 ∧ c = .int .i64 j ∧ r = .int .u32 (stepsN j q : Int)) (fun _ c => 8 - (intOf c).toNat)
      case atStart => exact ⟨0, Nat.zero_le _, rfl, rfl⟩
      case round =>
        obtain ⟨j, hj, rfl, rfl⟩ := hrel
        by_cases hjt : j < 8
        · have hq1 := stepsN_lt j hq
          have hs1 := stepsN_succ j q
          generalize stepsN j q = r at *
          go_wp2
          all_goals
            rename_i hP
            exact ⟨⟨j + 1, by omega, y5 j, val_eq (by rw [hs1]; first | exact y1 _ hq1 hP | exact y2 _ hq1 hP | exact y3 _ hq1 hP | exact y4 _ hq1 hP)⟩, by simp [intOf]; omega⟩
        · obtain rfl : j = 8 := by omega
          go_wp2
          exact ⟨⟨k + 1, by omega, y5 k, val_eq (by rw [HS.out, HQ.out]; rfl)⟩, by simp [intOf]; omega⟩
    · have hr := regN_lt s k
      have HE := Lib.hid (regN_end s k hlt)
      go_wp2
      go_ret
      exact ⟨ret_val (by rw [← HE.out]; first | exact x4 _ hr | exact x3 _ hr), rfl⟩
end Go.Proofs.YtfchpobjepdpgaaDoor

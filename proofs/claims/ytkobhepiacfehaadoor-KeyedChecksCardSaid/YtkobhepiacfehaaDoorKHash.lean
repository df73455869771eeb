/-
  CONTRACTS of the hash, the program's and the specification's: for every string that fits in memory.
-/
import Derived.Test.YtkobhepiacfehaaDoorKBase
import Derived.Laws.Bits64
namespace Go.Proofs.YtkobhepiacfehaaDoor
open Go.RowKit
set_option linter.unusedVariables false
def hstepN (h b : Nat) : Nat := (h ^^^ b) * 1099511628211 % 18446744073709551616
def hashL (l : List UInt8) : Nat := l.foldl (fun h b => hstepN h b.toNat) 14695981039346656037
def hashAt (s : ByteArray) (k : Nat) : Nat := hashL (s.data.toList.take k)
def hashN (s : ByteArray) : Nat := hashL s.data.toList
theorem hstepN_lt (h b : Nat) : hstepN h b < 18446744073709551616 := Nat.mod_lt _ (by decide)
theorem hashF_lt : ∀ (l : List UInt8) (h : Nat), h < 18446744073709551616 → l.foldl (fun h b => hstepN h b.toNat) h < 18446744073709551616
  | [], h, hh => hh
  | b :: l, h, hh => by
    rw [List.foldl_cons]
    exact hashF_lt l _ (hstepN_lt _ _)
theorem hashL_lt (l : List UInt8) : hashL l < 18446744073709551616 := hashF_lt l 14695981039346656037 (by omega)
theorem hashAt_lt (s : ByteArray) (k : Nat) : hashAt s k < 18446744073709551616 := hashL_lt _
theorem hashN_lt (s : ByteArray) : hashN s < 18446744073709551616 := hashL_lt _
theorem hashAt_succ (s : ByteArray) (k : Nat) (h : k < s.size) : hashAt s (k + 1) = hstepN (hashAt s k) s[k].toNat := by
  unfold hashAt hashL
  have : s.data.toList.take (k + 1) = s.data.toList.take k ++ [s[k]] := by
    rw [List.take_succ_eq_append_getElem (by simpa using h)]; rfl
  rw [this, List.foldl_append, List.foldl_cons, List.foldl_nil]
theorem hashAt_end (s : ByteArray) (k : Nat) (h : ¬ k < s.size) : hashAt s k = hashN s := by
  unfold hashAt hashN
  rw [List.take_of_length_le (by simp only [Array.length_toList]; show s.size ≤ k; omega)]
theorem hash_step (h b : Nat) (hh : h < 18446744073709551616) (hb : b < 256) : IntKind.u64.wrap (bits .xor .u64 (h : Int) (b : Int) * 1099511628211) = ((hstepN h b : Nat) : Int) := by
  rw [bits_xor_u64_nat h b hh (by omega), IntKind.wrap_u64]
  rfl
theorem hash_any (s : ByteArray) (hs : s.size ≤ maxLen) (w : World) :
    Calls Tryd.prog 30 #[.string s] w fun e w' => e = .returned (.int .u64 (hashN s : Int)) ∧ w = w' := by
  unfold maxLen at hs
  go_enter Tryd.func30, Tryd.ntmps30
  go_wp2_with fail
  go_loop [3, 4] (fun r i => ∃ k : Nat, k ≤ s.size ∧ i = .int .i64 k ∧ r = .int .u64 (hashAt s k : Int)) (fun _ i => s.size - (intOf i).toNat)
  case atStart => exact ⟨0, Nat.zero_le _, rfl, rfl⟩
  case round =>
    obtain ⟨k, hk, rfl, rfl⟩ := hrel
    by_cases hlt : k < s.size
    · have hb : s[k].toNat < 256 := s[k].toNat_lt
      have hr := hashAt_lt s k
      have HS := Lib.hid (hashAt_succ s k hlt)
      have HQ := Lib.hid (hash_step _ _ hr hb)
      go_wp2
      exact ⟨⟨k + 1, by omega, y5 k, val_eq (by rw [HS.out, ← HQ.out])⟩, by simp [intOf]; omega⟩
    · have HE := Lib.hid (hashAt_end s k hlt)
      go_wp2
      go_ret
      exact ⟨ret_val (by rw [HE.out]), rfl⟩
theorem rhash_any (s : ByteArray) (hs : s.size ≤ maxLen) (w : World) :
    Calls Tryd.prog 25 #[.string s] w fun e w' => e = .returned (.int .u64 (hashN s : Int)) ∧ w = w' := by
  unfold maxLen at hs
  go_enter Tryd.func25, Tryd.ntmps25
  go_wp2_with fail
  go_loop [3, 4] (fun r i => ∃ k : Nat, k ≤ s.size ∧ i = .int .i64 k ∧ r = .int .u64 (hashAt s k : Int)) (fun _ i => s.size - (intOf i).toNat)
  case atStart => exact ⟨0, Nat.zero_le _, rfl, rfl⟩
  case round =>
    obtain ⟨k, hk, rfl, rfl⟩ := hrel
    by_cases hlt : k < s.size
    · have hb : s[k].toNat < 256 := s[k].toNat_lt
      have hr := hashAt_lt s k
      have HS := Lib.hid (hashAt_succ s k hlt)
      have HQ := Lib.hid (hash_step _ _ hr hb)
      go_wp2
      exact ⟨⟨k + 1, by omega, y5 k, val_eq (by rw [HS.out, ← HQ.out])⟩, by simp [intOf]; omega⟩
    · have HE := Lib.hid (hashAt_end s k hlt)
      go_wp2
      go_ret
      exact ⟨ret_val (by rw [HE.out]), rfl⟩
end Go.Proofs.YtkobhepiacfehaaDoor

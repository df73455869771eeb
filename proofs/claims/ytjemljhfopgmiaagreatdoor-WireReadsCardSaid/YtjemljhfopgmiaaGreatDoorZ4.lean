/-
  CONTRACTS of wire: printable texts, the program's Alpha.
-/
import Derived.Test.YtjemljhfopgmiaaGreatDoorZ2
namespace Go.Proofs.YtjemljhfopgmiaaGreatDoor
open Go.RowKit
set_option linter.unusedVariables false
set_option linter.unusedSimpArgs false
/-- Byte k is printable. -/
def prAt (s : ByteArray) (k : Nat) : Prop := 32 ≤ byt s k ∧ byt s k ≤ 126
def Prs (s : ByteArray) : Prop := ∀ k, k < s.size → prAt s k
theorem snoc_pr {s : ByteArray} {k : Nat} (h : ∀ j, j < k → prAt s j) (hk : prAt s k) : ∀ j, j < k + 1 → prAt s j := fun j hj => by
  rcases Nat.lt_or_ge j k with h1 | h1
  · exact h j h1
  · obtain rfl : j = k := by omega
    exact hk
set_option maxHeartbeats 800000 in
theorem pr_any (s : ByteArray) (hs : s.size ≤ 281474976710656) (w : World) :
    Calls Tryz.prog 29 #[.string s] w fun e w' => ((Prs s ∧ e = .returned (.bool true)) ∨ (¬ Prs s ∧ e = .returned (.bool false))) ∧ w = w' := by
  go_enter Tryz.func29, Tryz.ntmps29
  go_wp2_with fail
  go_loop [3] (fun i => ∃ k : Nat, k ≤ s.size ∧ i = .int .i64 k ∧ (∀ j, j < k → prAt s j)) (fun i => s.size - (intOf i).toNat)
  case atStart => exact ⟨0, Nat.zero_le _, rfl, fun j h => absurd h (by omega)⟩
  case round =>
    obtain ⟨k, hk, rfl, hall⟩ := hrel
    have HALL := Lib.hid hall
    clear hall
    by_cases hlt : k < s.size
    · have hb256 : s[k].toNat < 256 := s[k].toNat_lt
      by_cases h32 : (s[k].toNat : Int) < 32
      · have HN : Hid (¬ Prs s) := Lib.hid fun h => by
          have := h k hlt
          unfold prAt at this
          rw [byt_get s k hlt] at this
          omega
        go_wp2
        go_ret
        exact ⟨.inr ⟨HN.out, rfl⟩, rfl⟩
      · by_cases h126 : 126 < (s[k].toNat : Int)
        · have HN : Hid (¬ Prs s) := Lib.hid fun h => by
            have := h k hlt
            unfold prAt at this
            rw [byt_get s k hlt] at this
            omega
          go_wp2
          go_ret
          exact ⟨.inr ⟨HN.out, rfl⟩, rfl⟩
        · have HK : Hid (prAt s k) := Lib.hid (by unfold prAt; rw [byt_get s k hlt]; omega)
          go_wp2
          go_round
          case rel => exact ⟨k + 1, by omega, by go_num, snoc_pr HALL.out HK.out⟩
          case measure => simp [intOf]; omega
    · go_wp2
      go_ret
      exact ⟨.inl ⟨fun j hj => HALL.out j (by omega), rfl⟩, rfl⟩
set_option maxHeartbeats 800000 in
theorem rpr_any (s : ByteArray) (hs : s.size ≤ 281474976710656) (w : World) :
    Calls Tryz.prog 37 #[.string s] w fun e w' => ((Prs s ∧ e = .returned (.bool true)) ∨ (¬ Prs s ∧ e = .returned (.bool false))) ∧ w = w' := by
  go_enter Tryz.func37, Tryz.ntmps37
  go_wp2_with fail
  go_loop [3] (fun i => ∃ k : Nat, k ≤ s.size ∧ i = .int .i64 k ∧ (∀ j, j < k → prAt s j)) (fun i => s.size - (intOf i).toNat)
  case atStart => exact ⟨0, Nat.zero_le _, rfl, fun j h => absurd h (by omega)⟩
  case round =>
    obtain ⟨k, hk, rfl, hall⟩ := hrel
    have HALL := Lib.hid hall
    clear hall
    by_cases hlt : k < s.size
    · have hb256 : s[k].toNat < 256 := s[k].toNat_lt
      by_cases h32 : (s[k].toNat : Int) < 32
      · have HN : Hid (¬ Prs s) := Lib.hid fun h => by
          have := h k hlt
          unfold prAt at this
          rw [byt_get s k hlt] at this
          omega
        go_wp2
        go_ret
        exact ⟨.inr ⟨HN.out, rfl⟩, rfl⟩
      · by_cases h126 : 126 < (s[k].toNat : Int)
        · have HN : Hid (¬ Prs s) := Lib.hid fun h => by
            have := h k hlt
            unfold prAt at this
            rw [byt_get s k hlt] at this
            omega
          go_wp2
          go_ret
          exact ⟨.inr ⟨HN.out, rfl⟩, rfl⟩
        · have HK : Hid (prAt s k) := Lib.hid (by unfold prAt; rw [byt_get s k hlt]; omega)
          go_wp2
          go_round
          case rel => exact ⟨k + 1, by omega, by go_num, snoc_pr HALL.out HK.out⟩
          case measure => simp [intOf]; omega
    · go_wp2
      go_ret
      exact ⟨.inl ⟨fun j hj => HALL.out j (by omega), rfl⟩, rfl⟩
end Go.Proofs.YtjemljhfopgmiaaGreatDoor

/-
  CONTRACTS of wire: the specification's Alpha.
-/
import Derived.Test.YtjemljhfopgmiaaDoorW5
namespace Go.Proofs.YtjemljhfopgmiaaDoor
open Go.RowKit
set_option linter.unusedVariables false
set_option linter.unusedSimpArgs false
theorem ix_at (s : ByteArray) (k : Nat) (h : k < s.size) {i : Int} (hi : i = k) (w : World) : (Instr.index 9 (.string s) (.int .i64 i)).run Tryd.prog w = .ok (.int .u8 (byt s k)) w := by
  subst hi
  rw [run_index_string w 9 s .i64 (k : Int) Tryd.underlying9, dif_pos ⟨by omega, by omega⟩, byt_get s k h]
  rfl
theorem sps_snoc (s : ByteArray) (k : Nat) : s ++ sps k ++ ⟨#[32]⟩ = s ++ sps (k + 1) := by
  rw [ByteArray.append_assoc]
  congr 1
  unfold sps
  rw [List.replicate_succ']
  apply ByteArray.ext
  rw [ByteArray.data_append]
  apply Array.toList_inj.1
  simp
set_option maxHeartbeats 1600000 in
theorem ralpha_any (s : ByteArray) (d : Int) (hs : s.size ≤ 281474976710656) (w : World) :
    Calls Tryd.prog 10 #[.string s, .int .i64 d] w fun e w' => (∃ t c, AlphaP s d t c ∧ e = .returned (.tuple #[.string t, .int .i64 c])) ∧ w = w' := by
  by_cases h1 : d < 1
  · go_enter Tryd.func10, Tryd.ntmps10
    go_wp2
    go_ret2
    exact ⟨⟨_, _, .inl ⟨.inl h1, rfl, rfl⟩, rfl⟩, rfl⟩
  by_cases h2 : 255 < d
  · go_enter Tryd.func10, Tryd.ntmps10
    go_wp2
    go_ret2
    exact ⟨⟨_, _, .inl ⟨.inr h2, rfl, rfl⟩, rfl⟩, rfl⟩
  by_cases h3 : d < s.size
  · go_enter Tryd.func10, Tryd.ntmps10
    go_wp2
    go_ret2
    exact ⟨⟨_, _, .inr (.inl ⟨by omega, by omega, h3, rfl, rfl⟩), rfl⟩, rfl⟩
  obtain ⟨k, rfl⟩ := Int.eq_ofNat_of_zero_le (show 0 ≤ d by omega)
  go_enter Tryd.func10, Tryd.ntmps10
  go_wp2_with fail
  go_at_call 29
  refine (rpr_any s hs _).mono ?_
  rintro e w1 ⟨he, rfl⟩
  rcases he with ⟨hp, rfl⟩ | ⟨hp, rfl⟩
  · have HP := Lib.hid hp
    clear hp
    by_cases h0 : s.size = 0
    · obtain rfl : s = ByteArray.empty := ByteArray.size_eq_zero_iff.1 h0
      have HB : Hid (¬ Blank ByteArray.empty) := Lib.hid fun h => absurd h.1 (by decide)
      go_wp2_with fail
      go_loop [0] (fun t => ∃ j : Nat, j ≤ k ∧ t = .string (sps j)) (fun t => k - (match t with | .string t => t.size | _ => 0))
      case atStart => exact ⟨0, Nat.zero_le _, rfl⟩
      case round =>
        obtain ⟨j, hj, rfl⟩ := hrel
        have hz := sps_size j
        have hz1 : (⟨#[32]⟩ : ByteArray).size = 1 := rfl
        by_cases hlt : j < k
        · have HS : Hid (sps j ++ ⟨#[32]⟩ = sps (j + 1)) := Lib.hid (by have := sps_snoc ByteArray.empty j; simpa using this)
          go_wp2
          go_round
          case rel => exact ⟨j + 1, by omega, by rw [HS.out]⟩
          case measure => simp [ByteArray.size_append, hz, hz1]; omega
        · obtain rfl : j = k := by omega
          have HA : Hid (AlphaP ByteArray.empty (j : Int) (sps j) 0) := Lib.hid (.inr (.inr (.inr ⟨by omega, by omega, by omega, HP.out, HB.out, by simp, rfl⟩)))
          go_wp2
          go_ret2
          exact ⟨⟨_, _, HA.out, rfl⟩, rfl⟩
    · have hne : s.toList.isEmpty = false := nonempty_list (by omega)
      have hne1 : ¬ s.toList = [] := fun h => by rw [h] at hne; exact absurd hne (by decide)
      have hne2 : (!s.toList.isEmpty) = true := by rw [hne]; rfl
      have hix := fun w => ix_at s (s.size - 1) (by omega) (i := (s.size : Int) - 1) (by omega) w
      have HBI := Lib.hid (show Blank s ↔ byt s (s.size - 1) = 32 from ⟨fun h => h.2, fun h => ⟨by omega, h⟩⟩)
      by_cases hb : byt s (s.size - 1) = 32
      · have HB : Hid (Blank s) := Lib.hid (HBI.out.2 hb)
        have hbb : (byt s (s.size - 1) == 32) = true := by rw [hb]; rfl
        clear hb
        go_wp2
        go_ret2
        exact ⟨⟨_, _, .inr (.inr (.inl ⟨by omega, by omega, by omega, .inr HB.out, rfl, rfl⟩)), rfl⟩, rfl⟩
      · have HB : Hid (¬ Blank s) := Lib.hid (fun h => hb (HBI.out.1 h))
        have hbb : (byt s (s.size - 1) == 32) = false := by simpa using hb
        clear hb
        go_wp2_with fail
        go_loop [0] (fun t => ∃ j : Nat, s.size + j ≤ k ∧ t = .string (s ++ sps j)) (fun t => k - (match t with | .string t => t.size | _ => 0))
        case atStart => exact ⟨0, by omega, by rw [show s ++ sps 0 = s from ByteArray.append_empty]⟩
        case round =>
          obtain ⟨j, hj, rfl⟩ := hrel
          have hz : (s ++ sps j).size = s.size + j := by rw [ByteArray.size_append, sps_size]
          have hz1 : (⟨#[32]⟩ : ByteArray).size = 1 := rfl
          by_cases hlt : s.size + j < k
          · have HS : Hid (s ++ sps j ++ ⟨#[32]⟩ = s ++ sps (j + 1)) := Lib.hid (sps_snoc s j)
            go_wp2
            go_round
            case rel => exact ⟨j + 1, by omega, by rw [HS.out]⟩
            case measure => simp [ByteArray.size_append, sps_size, hz1]; omega
          · have HA : Hid (AlphaP s (k : Int) (s ++ sps j) 0) := Lib.hid (.inr (.inr (.inr ⟨by omega, by omega, by omega, HP.out, HB.out, by rw [show ((k : Int).toNat - s.size) = j by omega], rfl⟩)))
            have HK : Hid (¬ s.size + j < k) := Lib.hid hlt
            go_wp2
            go_ret2
            exact ⟨⟨_, _, HA.out, rfl⟩, rfl⟩
  · have HP := Lib.hid hp
    clear hp
    go_wp2
    go_ret2
    exact ⟨⟨_, _, .inr (.inr (.inl ⟨by omega, by omega, by omega, .inl HP.out, rfl, rfl⟩)), rfl⟩, rfl⟩
end Go.Proofs.YtjemljhfopgmiaaDoor

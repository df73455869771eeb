/-
  CONTRACTS of wire: digits, padded numbers.
-/
import Derived.Test.YtjemljhfopgmiaaGreatDoorChecked
import Derived.Test.YtjemljhfopgmiaaGreatDoorPM2
import Derived.Test.YtjemljhfopgmiaaGreatDoorKShelf
import Derived.Laws.RangeAny
import Derived.Lib.Hide
import Derived.Below
import Derived.WalkLawsBesides
namespace Go.Proofs.YtjemljhfopgmiaaGreatDoor
open Go.RowKit
set_option linter.unusedVariables false
set_option linter.unusedSimpArgs false
theorem ret_bool {a b : Bool} (h : a = b) : Ending.returned (.bool a) = .returned (.bool b) := by rw [h]
theorem ret_str {a b : ByteArray} (h : a = b) : Ending.returned (.string a) = .returned (.string b) := by rw [h]
theorem val_int {a b : Int} (h : a = b) : Value.int .i64 a = Value.int .i64 b := by rw [h]
theorem ret_int {k : IntKind} {a b : Int} (h : a = b) : Ending.returned (.int k a) = .returned (.int k b) := by rw [h]
theorem nonempty_list {s : ByteArray} (h : 0 < s.size) : s.toList.isEmpty = false := by
  rw [ByteArray.toList_eq]
  cases hl : s.data.toList with
  | nil => exfalso; have : s.data.toList.length = 0 := by rw [hl]; rfl
           have h2 : s.data.toList.length = s.size := rfl
           omega
  | cons a l => rfl
theorem snoc_dg {s : ByteArray} {k : Nat} (h : ∀ j, j < k → dgAt s j) (hk : dgAt s k) : ∀ j, j < k + 1 → dgAt s j := fun j hj => by
  rcases Nat.lt_or_ge j k with h1 | h1
  · exact h j h1
  · obtain rfl : j = k := by omega
    exact hk
def digitB (c : Int) : Bool := decide (48 ≤ c ∧ c ≤ 57)
theorem digit_any (c : Int) (h0 : 0 ≤ c) (h1 : c ≤ 255) (w : World) :
    Calls Tryz.prog 58 #[.int .u8 c] w fun e w' => e = .returned (.bool (digitB c)) ∧ w = w' := by
  by_cases h2 : 48 ≤ c
  · by_cases h3 : c ≤ 57
    · have HD : Hid (digitB c = true) := Lib.hid (decide_eq_true ⟨h2, h3⟩)
      go_enter Tryz.func58, Tryz.ntmps58
      go_wp2
      go_ret
      exact ⟨ret_bool HD.out.symm, rfl⟩
    · have HD : Hid (digitB c = false) := Lib.hid (decide_eq_false fun h => h3 h.2)
      go_enter Tryz.func58, Tryz.ntmps58
      go_wp2
      go_ret
      exact ⟨ret_bool HD.out.symm, rfl⟩
  · have HD : Hid (digitB c = false) := Lib.hid (decide_eq_false fun h => h2 h.1)
    go_enter Tryz.func58, Tryz.ntmps58
    go_wp2
    go_ret
    exact ⟨ret_bool HD.out.symm, rfl⟩
set_option maxHeartbeats 800000 in
theorem digits_yes (s : ByteArray) (hs : s.size ≤ 1000) (h0 : 0 < s.size) (hd : Dgs s) (w : World) :
    Calls Tryz.prog 43 #[.string s] w fun e w' => e = .returned (.bool true) ∧ w = w' := by
  have hn : s.toList.isEmpty = false := nonempty_list h0
  have hn2 : (!s.toList.isEmpty) = true := by rw [hn]; rfl
  have HD := Lib.hid hd
  clear hd
  go_enter Tryz.func43, Tryz.ntmps43
  go_wp2_with fail
  go_loop [3] (fun i => ∃ k : Nat, k ≤ s.size ∧ i = .int .i64 k) (fun i => s.size - (intOf i).toNat)
  case atStart => exact ⟨0, Nat.zero_le _, rfl⟩
  case round =>
    obtain ⟨k, hk, rfl⟩ := hrel


    by_cases hlt : k < s.size
    · have hb256 : s[k].toNat < 256 := s[k].toNat_lt
      have hdk := HD.out k hlt
      unfold dgAt at hdk
      rw [byt_get s k hlt] at hdk
      obtain ⟨d0, d1⟩ := hdk
      have hD : digitB (s[k].toNat : Int) = true := by unfold digitB; exact decide_eq_true ⟨d0, d1⟩
      go_wp2_with (go_at_call 58; refine (digit_any _ (by omega) (by omega) _).mono ?_; rintro e w' ⟨rfl, rfl⟩)
      go_round
      case rel => exact ⟨k + 1, by omega, by go_num⟩
      case measure => simp [intOf]; omega
    · go_wp2
      go_ret
      exact ⟨rfl, rfl⟩
set_option maxHeartbeats 800000 in
theorem digits_no (s : ByteArray) (hs : s.size ≤ 1000) (hd : ¬ Dgs s) (w : World) :
    Calls Tryz.prog 43 #[.string s] w fun e w' => e = .returned (.bool false) ∧ w = w' := by
  have HD := Lib.hid hd
  clear hd
  go_enter Tryz.func43, Tryz.ntmps43
  go_wp2_with fail
  go_loop [3] (fun i => ∃ k : Nat, k ≤ s.size ∧ i = .int .i64 k ∧ (∀ j, j < k → dgAt s j)) (fun i => s.size - (intOf i).toNat)
  case atStart => exact ⟨0, Nat.zero_le _, rfl, fun j h => absurd h (by omega)⟩
  case round =>
    obtain ⟨k, hk, rfl, hall⟩ := hrel
    have HALL := Lib.hid hall
    clear hall
    by_cases hlt : k < s.size
    · have hb256 : s[k].toNat < 256 := s[k].toNat_lt
      by_cases hdk : dgAt s k
      · have HDK := Lib.hid hdk
        unfold dgAt at hdk
        rw [byt_get s k hlt] at hdk
        obtain ⟨d0, d1⟩ := hdk
        have hD : digitB (s[k].toNat : Int) = true := by unfold digitB; exact decide_eq_true ⟨d0, d1⟩
        go_wp2_with (go_at_call 58; refine (digit_any _ (by omega) (by omega) _).mono ?_; rintro e w' ⟨rfl, rfl⟩)
        go_round
        case rel => exact ⟨k + 1, by omega, by go_num, snoc_dg HALL.out HDK.out⟩
        case measure => simp [intOf]; omega
      · unfold dgAt at hdk
        rw [byt_get s k hlt] at hdk
        have hD : digitB (s[k].toNat : Int) = false := by unfold digitB; exact decide_eq_false hdk
        go_wp2_with (go_at_call 58; refine (digit_any _ (by omega) (by omega) _).mono ?_; rintro e w' ⟨rfl, rfl⟩)
        go_ret
        exact ⟨rfl, rfl⟩
    · exact absurd (fun j hj => HALL.out j (by omega)) HD.out
open Go.Lib
def Pow (w : World) : Prop := Lib.TabIs Tryz.prog w "internal/strconv.uint64pow10" .u64 Lib.pow10Tab
theorem Pow.later {w w' : World} {B : Nat} (h : Pow w) (hb : Below B w w') (hB : 3 ≤ B) : Pow w' := by
  unfold Pow TabIs World.var? at *
  obtain ⟨k, hk, hk8⟩ : ∃ k, (Tryz.prog).globalNamed "internal/strconv.uint64pow10" = some k ∧ k < 3 := ⟨_, (by kernel_rfl : _ = some 2), by decide⟩
  simp only [hk, Option.bind_some] at h ⊢
  rw [hb.block k (by omega)]
  exact h
theorem nd_bd (u : Nat) : u < 10 ^ nDigits u ∧ (nDigits u = 1 ∨ 10 ^ (nDigits u - 1) ≤ u) := by
  induction u using Nat.strongRecOn with
  | _ u ih =>
    by_cases h : u < 10
    · rw [nDigits_small h]; exact ⟨by omega, .inl rfl⟩
    · obtain ⟨h1, h2⟩ := ih (u / 10) (by omega)
      rw [nDigits_big h, Nat.pow_succ, Nat.add_sub_cancel]
      refine ⟨by omega, .inr ?_⟩
      rcases h2 with h2 | h2
      · rw [h2]; omega
      · have hp := nDigits_pos (u / 10)
        obtain ⟨m, hm⟩ : ∃ m, nDigits (u / 10) = m + 1 := ⟨_, (Nat.succ_pred (by omega)).symm⟩
        rw [hm] at h2 ⊢
        rw [Nat.add_sub_cancel] at h2
        rw [Nat.pow_succ]
        omega
theorem nd_iff (u d : Nat) (hd : 1 ≤ d) : nDigits u ≤ d ↔ u < 10 ^ d := by
  obtain ⟨h1, h2⟩ := nd_bd u
  constructor
  · intro h
    exact Nat.lt_of_lt_of_le h1 (Nat.pow_le_pow_right (by decide) h)
  · intro h
    rcases h2 with h2 | h2
    · omega
    · apply Classical.byContradiction
      intro hn
      have := Nat.pow_le_pow_right (show 0 < 10 by decide) (show d ≤ nDigits u - 1 by omega)
      omega
theorem nd_mono (u : Nat) {d : Nat} (h : nDigits u ≤ d) : u < 10 ^ d := Nat.lt_of_lt_of_le (nd_bd u).1 (Nat.pow_le_pow_right (by decide) h)
theorem fmt_any (u : Nat) (h : u ≤ 9223372036854775807) (w : World) (hT : Pow w) : Calls Tryz.prog 50 #[.int .i64 (u : Int), .int .i64 10] w fun e w' => e = .returned (.string (decS u (nDigits u))) ∧ Below w.heap.size w w' := by
  refine (Tryz.strconv_FormatInt_10 (u : Int) (by omega) (by omega) w hT).mono ?_
  rintro e w' ⟨rfl, k, os, rfl⟩
  exact ⟨ret_str (by rw [itoa_nonneg, decS_all]), below_grow _ w (Nat.le_refl _) k os⟩
theorem itoa_any (u : Nat) (h : u ≤ 9223372036854775807) (w : World) (hT : Pow w) : Calls Tryz.prog 87 #[.int .i64 (u : Int)] w fun e w' => e = .returned (.string (decS u (nDigits u))) ∧ Below w.heap.size w w' := by
  refine (Tryz.strconv_Itoa (u : Int) (by omega) (by omega) w hT).mono ?_
  rintro e w' ⟨rfl, k, os, rfl⟩
  exact ⟨ret_str (by rw [itoa_nonneg, decS_all]), below_grow _ w (Nat.le_refl _) k os⟩
set_option maxHeartbeats 800000 in
theorem padded_any (u : Nat) (h : u ≤ 9223372036854775807) (d : Nat) (hd : d ≤ 30) (w : World) (hT : Pow w) :
    Calls Tryz.prog 38 #[.int .i64 (u : Int), .int .i64 (d : Int)] w fun e w' => e = .returned (.string (decS u (max (nDigits u) d))) ∧ Below w.heap.size w w' := by
  go_enter Tryz.func38, Tryz.ntmps38
  go_wp2_with fail
  go_at_call 50
  refine (fmt_any u h w hT).mono ?_
  rintro e w1 ⟨rfl, hb1⟩
  have HM : Hid (max (nDigits u) d = d ∨ (max (nDigits u) d = nDigits u ∧ d < nDigits u)) := Lib.hid (by omega)
  go_wp2_with fail
  go_loop [5] (fun s => ∃ k : Nat, nDigits u ≤ k ∧ k ≤ max (nDigits u) d ∧ s = .string (decS u k)) (fun s => d - (match s with | .string t => t.size | _ => 0))
  case atStart => exact ⟨_, Nat.le_refl _, Nat.le_max_left _ _, rfl⟩
  case round =>
    obtain ⟨k, hk, hkd, rfl⟩ := hrel
    have hz := decS_size u k
    have hP := Lib.hid (decS_pad (nd_mono u hk))
    have hz1 : (⟨#[48]⟩ : ByteArray).size = 1 := rfl
    by_cases hlt : k < d
    · go_wp2
      go_round
      case rel => exact ⟨k + 1, by omega, by omega, by rw [hP.out]⟩
      case measure => simp [ByteArray.size_append, hz, hz1]; omega
    · have hkm : Hid (k = max (nDigits u) d) := Lib.hid (by omega)
      go_wp2
      go_ret
      exact ⟨ret_str (congrArg (decS u) hkm.out), hb1⟩
end Go.Proofs.YtjemljhfopgmiaaGreatDoor

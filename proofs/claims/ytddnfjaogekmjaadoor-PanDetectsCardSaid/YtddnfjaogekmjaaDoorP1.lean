/-
  CONTRACTS of card numbers: digits and the check of Luhn, the program's and the specification's.
-/
import Derived.Test.YtddnfjaogekmjaaDoorChecked
import Derived.Test.YtddnfjaogekmjaaDoorPMath
import Derived.Laws.RangeAny
import Derived.Lib.Hide
import Derived.Below
import Derived.WalkLawsBesides
namespace Go.Proofs.YtddnfjaogekmjaaDoor
open Go.RowKit
set_option linter.unusedVariables false
theorem ret_bool {a b : Bool} (h : a = b) : Ending.returned (.bool a) = .returned (.bool b) := by rw [h]
theorem ret_str {a b : ByteArray} (h : a = b) : Ending.returned (.string a) = .returned (.string b) := by rw [h]
theorem val_int {a b : Int} (h : a = b) : Value.int .i64 a = Value.int .i64 b := by rw [h]
theorem ret_int {k : IntKind} {a b : Int} (h : a = b) : Ending.returned (.int k a) = .returned (.int k b) := by rw [h]
theorem nonempty_list {s : ByteArray} (h : 0 < s.size) : s.toList.isEmpty = false := by
  rw [ByteArray.toList_eq]
  cases hl : s.data.toList with
  | nil => exfalso; have : s.data.toList.length = 0 := by rw [hl]; rfl
           have h2 : s.data.toList.length = s.size := rfl
           omega
  | cons a l => rfl
theorem snoc_dg {s : ByteArray} {k : Nat} (h : ∀ j, j < k → dgAt s j) (hk : dgAt s k) : ∀ j, j < k + 1 → dgAt s j := fun j hj => by
  rcases Nat.lt_or_ge j k with h1 | h1
  · exact h j h1
  · obtain rfl : j = k := by omega
    exact hk
theorem counted_any (d : Int) (b : Bool) (h0 : 0 ≤ d) (h1 : d ≤ 9) (w : World) : Calls Tryd.prog 32 #[.int .i64 d, .bool b] w fun e w' => e = .returned (.int .i64 (cnt d b)) ∧ w = w' := by
  cases b
  · have h9 : ¬ 9 < d := by omega
    have HC : Hid (cnt d false = d) := Lib.hid (by unfold cnt; simp; omega)
    go_enter Tryd.func32, Tryd.ntmps32
    go_wp2
    go_ret
    exact ⟨ret_int HC.out.symm, rfl⟩
  · by_cases h9 : 9 < d * 2
    · have HC : Hid (cnt d true = d * 2 - 9) := Lib.hid (by unfold cnt; simp; omega)
      go_enter Tryd.func32, Tryd.ntmps32
      go_wp2
      go_ret
      exact ⟨ret_int HC.out.symm, rfl⟩
    · have HC : Hid (cnt d true = d * 2) := Lib.hid (by unfold cnt; simp; omega)
      go_enter Tryd.func32, Tryd.ntmps32
      go_wp2
      go_ret
      exact ⟨ret_int HC.out.symm, rfl⟩
def digitB (c : Int) : Bool := decide (48 ≤ c ∧ c ≤ 57)
theorem digit_any (c : Int) (h0 : 0 ≤ c) (h1 : c ≤ 255) (w : World) :
    Calls Tryd.prog 40 #[.int .u8 c] w fun e w' => e = .returned (.bool (digitB c)) ∧ w = w' := by
  by_cases h2 : 48 ≤ c
  · by_cases h3 : c ≤ 57
    · have HD : Hid (digitB c = true) := Lib.hid (decide_eq_true ⟨h2, h3⟩)
      go_enter Tryd.func40, Tryd.ntmps40
      go_wp2
      go_ret
      exact ⟨ret_bool HD.out.symm, rfl⟩
    · have HD : Hid (digitB c = false) := Lib.hid (decide_eq_false fun h => h3 h.2)
      go_enter Tryd.func40, Tryd.ntmps40
      go_wp2
      go_ret
      exact ⟨ret_bool HD.out.symm, rfl⟩
  · have HD : Hid (digitB c = false) := Lib.hid (decide_eq_false fun h => h2 h.1)
    go_enter Tryd.func40, Tryd.ntmps40
    go_wp2
    go_ret
    exact ⟨ret_bool HD.out.symm, rfl⟩
set_option maxHeartbeats 800000 in
theorem digits_yes (s : ByteArray) (hs : s.size ≤ 1000) (h0 : 0 < s.size) (hd : Dgs s) (w : World) :
    Calls Tryd.prog 29 #[.string s] w fun e w' => e = .returned (.bool true) ∧ w = w' := by
  have hn : s.toList.isEmpty = false := nonempty_list h0
  have hn2 : (!s.toList.isEmpty) = true := by rw [hn]; rfl
  have HD := Lib.hid hd
  clear hd
  go_enter Tryd.func29, Tryd.ntmps29
  go_wp2_with fail
  go_loop [3] (fun i => ∃ k : Nat, k ≤ s.size ∧ i = .int .i64 k) (fun i => s.size - (intOf i).toNat)
  case atStart => exact ⟨0, Nat.zero_le _, rfl⟩
  case round =>
    obtain ⟨k, hk, rfl⟩ := hrel


    by_cases hlt : k < s.size
    · have hb256 : s[k].toNat < 256 := s[k].toNat_lt
      have hdk := HD.out k hlt
      unfold dgAt at hdk
      rw [byt_get s k hlt] at hdk
      obtain ⟨d0, d1⟩ := hdk
      have hD : digitB (s[k].toNat : Int) = true := by unfold digitB; exact decide_eq_true ⟨d0, d1⟩
      go_wp2_with (go_at_call 40; refine (digit_any _ (by omega) (by omega) _).mono ?_; rintro e w' ⟨rfl, rfl⟩)
      go_round
      case rel => exact ⟨k + 1, by omega, by go_num⟩
      case measure => simp [intOf]; omega
    · go_wp2
      go_ret
      exact ⟨rfl, rfl⟩
set_option maxHeartbeats 800000 in
theorem digits_no (s : ByteArray) (hs : s.size ≤ 1000) (hd : ¬ Dgs s) (w : World) :
    Calls Tryd.prog 29 #[.string s] w fun e w' => e = .returned (.bool false) ∧ w = w' := by
  have HD := Lib.hid hd
  clear hd
  go_enter Tryd.func29, Tryd.ntmps29
  go_wp2_with fail
  go_loop [3] (fun i => ∃ k : Nat, k ≤ s.size ∧ i = .int .i64 k ∧ (∀ j, j < k → dgAt s j)) (fun i => s.size - (intOf i).toNat)
  case atStart => exact ⟨0, Nat.zero_le _, rfl, fun j h => absurd h (by omega)⟩
  case round =>
    obtain ⟨k, hk, rfl, hall⟩ := hrel
    have HALL := Lib.hid hall
    clear hall
    by_cases hlt : k < s.size
    · have hb256 : s[k].toNat < 256 := s[k].toNat_lt
      by_cases hdk : dgAt s k
      · have HDK := Lib.hid hdk
        unfold dgAt at hdk
        rw [byt_get s k hlt] at hdk
        obtain ⟨d0, d1⟩ := hdk
        have hD : digitB (s[k].toNat : Int) = true := by unfold digitB; exact decide_eq_true ⟨d0, d1⟩
        go_wp2_with (go_at_call 40; refine (digit_any _ (by omega) (by omega) _).mono ?_; rintro e w' ⟨rfl, rfl⟩)
        go_round
        case rel => exact ⟨k + 1, by omega, by go_num, snoc_dg HALL.out HDK.out⟩
        case measure => simp [intOf]; omega
      · unfold dgAt at hdk
        rw [byt_get s k hlt] at hdk
        have hD : digitB (s[k].toNat : Int) = false := by unfold digitB; exact decide_eq_false hdk
        go_wp2_with (go_at_call 40; refine (digit_any _ (by omega) (by omega) _).mono ?_; rintro e w' ⟨rfl, rfl⟩)
        go_ret
        exact ⟨rfl, rfl⟩
    · exact absurd (fun j hj => HALL.out j (by omega)) HD.out
set_option maxHeartbeats 800000 in
theorem rdigits_yes (s : ByteArray) (hs : s.size ≤ 1000) (hd : Dgs s) (w : World) :
    Calls Tryd.prog 30 #[.string s] w fun e w' => e = .returned (.bool true) ∧ w = w' := by
  have HD := Lib.hid hd
  clear hd
  go_enter Tryd.func30, Tryd.ntmps30
  go_wp2_with fail
  go_loop [3] (fun i => ∃ k : Nat, k ≤ s.size ∧ i = .int .i64 k) (fun i => s.size - (intOf i).toNat)
  case atStart => exact ⟨0, Nat.zero_le _, rfl⟩
  case round =>
    obtain ⟨k, hk, rfl⟩ := hrel


    by_cases hlt : k < s.size
    · have hb256 : s[k].toNat < 256 := s[k].toNat_lt
      have hdk := HD.out k hlt
      unfold dgAt at hdk
      rw [byt_get s k hlt] at hdk
      obtain ⟨d0, d1⟩ := hdk
      have hl1 : ¬ (s[k].toNat : Int) < 48 := by omega
      have hl2 : ¬ 57 < (s[k].toNat : Int) := by omega
      go_wp2
      go_round
      case rel => exact ⟨k + 1, by omega, by go_num⟩
      case measure => simp [intOf]; omega
    · go_wp2
      go_ret
      exact ⟨rfl, rfl⟩
set_option maxHeartbeats 800000 in
theorem rdigits_no (s : ByteArray) (hs : s.size ≤ 1000) (hd : ¬ Dgs s) (w : World) :
    Calls Tryd.prog 30 #[.string s] w fun e w' => e = .returned (.bool false) ∧ w = w' := by
  have HD := Lib.hid hd
  clear hd
  go_enter Tryd.func30, Tryd.ntmps30
  go_wp2_with fail
  go_loop [3] (fun i => ∃ k : Nat, k ≤ s.size ∧ i = .int .i64 k ∧ (∀ j, j < k → dgAt s j)) (fun i => s.size - (intOf i).toNat)
  case atStart => exact ⟨0, Nat.zero_le _, rfl, fun j h => absurd h (by omega)⟩
  case round =>
    obtain ⟨k, hk, rfl, hall⟩ := hrel
    have HALL := Lib.hid hall
    clear hall
    by_cases hlt : k < s.size
    · have hb256 : s[k].toNat < 256 := s[k].toNat_lt
      by_cases hdk : dgAt s k
      · have HDK := Lib.hid hdk
        unfold dgAt at hdk
        rw [byt_get s k hlt] at hdk
        obtain ⟨d0, d1⟩ := hdk
        have hl1 : ¬ (s[k].toNat : Int) < 48 := by omega
        have hl2 : ¬ 57 < (s[k].toNat : Int) := by omega
        go_wp2
        go_round
        case rel => exact ⟨k + 1, by omega, by go_num, snoc_dg HALL.out HDK.out⟩
        case measure => simp [intOf]; omega
      · unfold dgAt at hdk
        rw [byt_get s k hlt] at hdk
        by_cases hlow : (s[k].toNat : Int) < 48
        · clear hdk
          go_wp2
          go_ret
          exact ⟨rfl, rfl⟩
        · have hhigh : 57 < (s[k].toNat : Int) := by omega
          clear hdk
          go_wp2
          go_ret
          exact ⟨rfl, rfl⟩
    · exact absurd (fun j hj => HALL.out j (by omega)) HD.out
set_option maxHeartbeats 1600000 in
theorem luhn_dg (s : ByteArray) (hs : s.size ≤ 1000) (h0 : 0 < s.size) (hd : Dgs s) {b : Bool} (HB : Hid (b = decide (lsum s 1 s.size % 10 = 0))) (w : World) :
    Calls Tryd.prog 13 #[.string s] w fun e w' => e = .returned (.bool b) ∧ Below w.heap.size w w' := by
  have hn : s.toList.isEmpty = false := nonempty_list h0
  have hn2 : (!s.toList.isEmpty) = true := by rw [hn]; rfl
  have HD := Lib.hid hd
  clear hd
  go_enter Tryd.func13, Tryd.ntmps13
  go_wp2_with fail
  go_loopw [3] (fun sum wr => ∃ k : Nat, k ≤ s.size ∧ sum = .int .i64 (lsum s 1 k) ∧ wr = w.iter s k ∧ 0 ≤ lsum s 1 k ∧ lsum s 1 k ≤ 9 * k) (fun _ wr => s.size - (match wr.heap[w.heap.size]? with | some (.stringIter _ p) => p | _ => 0))
  case atStart => exact ⟨0, Nat.zero_le _, rfl, rfl, by simp [lsum], by simp [lsum]⟩
  case round =>
    obtain ⟨k, hk, rfl, rfl, b0, b1⟩ := hrel


    by_cases hlt : k < s.size
    · have hdk := HD.out k hlt
      unfold dgAt at hdk
      rw [byt_get s k hlt] at hdk
      obtain ⟨d0, d1⟩ := hdk
      have hcast : lsum s 1 (k + 1) = lsum s 1 k + cnt ((s[k].toNat : Int) - 48) (((s.size : Int) - (k : Int)) % 2 == 0) := by
        rw [lsum, byt_get s k hlt]
        congr 3
        omega
      have HS := Lib.hid hcast
      have cb := cnt_bd ((s[k].toNat : Int) - 48) (((s.size : Int) - (k : Int)) % 2 == 0) (by omega) (by omega)
      have hnx := fun ty => run_next_ascii (P := Tryd.prog) w s k ty hlt (by omega)
      clear hcast
      go_wp2_with fail
      refine (counted_any _ _ (by omega) (by omega) _).mono ?_
      rintro e w' ⟨rfl, rfl⟩
      go_wp2_with fail
      exact ⟨⟨k + 1, hlt, val_int HS.out.symm, rfl, by rw [HS.out]; omega, by rw [HS.out]; omega⟩, by rw [World.iter_heap, World.iter_heap]; exact Nat.sub_lt_sub_left hlt (Nat.lt_succ_self k)⟩
    · obtain rfl : k = s.size := by omega
      have hnx := fun ty => run_next_end (P := Tryd.prog) w s s.size ty hlt
      go_wp2_with fail
      go_ret
      exact ⟨ret_bool (by rw [HB.out, Bool.eq_iff_iff]; simp), (Below.refl _ _).alloc (Nat.le_refl _) _⟩
set_option maxHeartbeats 1600000 in
theorem luhn_bad (s : ByteArray) (hs : s.size ≤ 1000) (hd : ¬ Dgs s) (w : World) :
    Calls Tryd.prog 13 #[.string s] w fun e w' => e = .returned (.bool false) ∧ Below w.heap.size w w' := by
  have HD := Lib.hid hd
  clear hd
  go_enter Tryd.func13, Tryd.ntmps13
  go_wp2_with fail
  go_loopw [3] (fun sum wr => ∃ k : Nat, k ≤ s.size ∧ sum = .int .i64 (lsum s 1 k) ∧ wr = w.iter s k ∧ 0 ≤ lsum s 1 k ∧ lsum s 1 k ≤ 9 * k ∧ (∀ j, j < k → dgAt s j)) (fun _ wr => s.size - (match wr.heap[w.heap.size]? with | some (.stringIter _ p) => p | _ => 0))
  case atStart => exact ⟨0, Nat.zero_le _, rfl, rfl, by simp [lsum], by simp [lsum], fun j h => absurd h (by omega)⟩
  case round =>
    obtain ⟨k, hk, rfl, rfl, b0, b1, hall⟩ := hrel
    have HALL := Lib.hid hall
    clear hall
    by_cases hlt : k < s.size
    · by_cases hdk : dgAt s k
      · have HDK := Lib.hid hdk
        unfold dgAt at hdk
        rw [byt_get s k hlt] at hdk
        obtain ⟨d0, d1⟩ := hdk
        have hcast : lsum s 1 (k + 1) = lsum s 1 k + cnt ((s[k].toNat : Int) - 48) (((s.size : Int) - (k : Int)) % 2 == 0) := by
          rw [lsum, byt_get s k hlt]
          congr 3
          omega
        have HS := Lib.hid hcast
        have cb := cnt_bd ((s[k].toNat : Int) - 48) (((s.size : Int) - (k : Int)) % 2 == 0) (by omega) (by omega)
        have hnx := fun ty => run_next_ascii (P := Tryd.prog) w s k ty hlt (by omega)
        clear hcast
        go_wp2_with fail
        refine (counted_any _ _ (by omega) (by omega) _).mono ?_
        rintro e w' ⟨rfl, rfl⟩
        go_wp2_with fail
        exact ⟨⟨k + 1, hlt, val_int HS.out.symm, rfl, by rw [HS.out]; omega, by rw [HS.out]; omega, snoc_dg HALL.out HDK.out⟩, by rw [World.iter_heap, World.iter_heap]; exact Nat.sub_lt_sub_left hlt (Nat.lt_succ_self k)⟩
      · unfold dgAt at hdk
        rw [byt_get s k hlt] at hdk
        have hb256 : s[k].toNat < 256 := s[k].toNat_lt
        by_cases h128 : s[k].toNat < 128
        · have hnx := fun ty => run_next_ascii (P := Tryd.prog) w s k ty hlt h128
          by_cases hlow : (s[k].toNat : Int) < 48
          · clear hdk
            go_wp2_with fail
            go_ret
            exact ⟨rfl, (Below.refl _ _).alloc (Nat.le_refl _) _⟩
          · have hhigh : 57 < (s[k].toNat : Int) := by omega
            clear hdk
            go_wp2_with fail
            go_ret
            exact ⟨rfl, (Below.refl _ _).alloc (Nat.le_refl _) _⟩
        · have hdec := decode_high s k hlt (by omega)
          have hnx := fun ty => run_next_any (P := Tryd.prog) w s k ty hlt
          obtain ⟨r, hr⟩ : ∃ r, r = (Utf8.decode s k).1 := ⟨_, rfl⟩
          obtain ⟨z, hz⟩ : ∃ z, z = (Utf8.decode s k).2 := ⟨_, rfl⟩
          rw [← hr, ← hz] at hdec hnx
          have h1 : ¬ (r : Int) < 48 := by omega
          have h2 : 57 < (r : Int) := by omega
          clear hdk hr hz hdec
          go_wp2_with fail
          go_ret
          exact ⟨rfl, (Below.refl _ _).alloc (Nat.le_refl _) _⟩
    · exact absurd (fun j hj => HALL.out j (by omega)) HD.out
end Go.Proofs.YtddnfjaogekmjaaDoor

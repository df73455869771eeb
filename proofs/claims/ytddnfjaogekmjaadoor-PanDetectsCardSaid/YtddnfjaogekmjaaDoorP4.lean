/-
  CONTRACTS of card numbers: the specification's Mask, Group, Strip.
-/
import Derived.Test.YtddnfjaogekmjaaDoorP3
import Derived.Test.YtddnfjaogekmjaaDoorPM2
import Derived.Laws.Slices
namespace Go.Proofs.YtddnfjaogekmjaaDoor
open Go.RowKit
set_option linter.unusedVariables false
set_option linter.unusedSimpArgs false
def isDI (s : ByteArray) (i : Int) : Bool := decide (0 ≤ i ∧ 48 ≤ byt s i.toNat ∧ byt s i.toNat ≤ 57)
theorem byt_out (s : ByteArray) (k : Nat) (h : s.size ≤ k) : byt s k = 0 := by
  rw [byt, List.getD_eq_getElem?_getD, List.getElem?_eq_none (by simpa using h)]; rfl
theorem rdigit_any (s : ByteArray) (hs : s.size ≤ 1000) (i : Int) (h0 : -1 ≤ i) (h1 : i ≤ 1000) {b : Bool} (HB : Hid (isDI s i = b)) (w : World) :
    Calls Tryd.prog 41 #[.string s, .int .i64 i] w fun e w' => e = .returned (.bool b) ∧ w = w' := by
  by_cases hn : i < 0
  · have HC : Hid (false = b) := Lib.hid (by rw [← HB.out]; exact (decide_eq_false fun h => by omega).symm)
    have hn2 : ¬ 0 ≤ i := by omega
    go_enter Tryd.func41, Tryd.ntmps41
    go_wp2
    go_ret
    exact ⟨ret_bool HC.out, rfl⟩
  obtain ⟨k, rfl⟩ := Int.eq_ofNat_of_zero_le (show 0 ≤ i by omega)
  clear hn
  by_cases hlt : k < s.size
  · have hb256 : s[k].toNat < 256 := s[k].toNat_lt
    have HV : Hid (b = decide (48 ≤ (s[k].toNat : Int) ∧ (s[k].toNat : Int) ≤ 57)) := Lib.hid (by
      rw [← HB.out]; unfold isDI; rw [Int.toNat_natCast, byt_get s k hlt, Bool.eq_iff_iff, decide_eq_true_eq, decide_eq_true_eq]; omega)
    by_cases h2 : 48 ≤ (s[k].toNat : Int)
    · by_cases h3 : (s[k].toNat : Int) ≤ 57
      · have HC : Hid (true = b) := Lib.hid (by rw [HV.out]; exact (decide_eq_true ⟨h2, h3⟩).symm)
        go_enter Tryd.func41, Tryd.ntmps41
        go_wp2
        go_ret
        exact ⟨ret_bool HC.out, rfl⟩
      · have HC : Hid (false = b) := Lib.hid (by rw [HV.out]; exact (decide_eq_false fun h => h3 h.2).symm)
        go_enter Tryd.func41, Tryd.ntmps41
        go_wp2
        go_ret
        exact ⟨ret_bool HC.out, rfl⟩
    · have HC : Hid (false = b) := Lib.hid (by rw [HV.out]; exact (decide_eq_false fun h => h2 h.1).symm)
      go_enter Tryd.func41, Tryd.ntmps41
      go_wp2
      go_ret
      exact ⟨ret_bool HC.out, rfl⟩
  · have HC : Hid (false = b) := Lib.hid (by
      rw [← HB.out]; unfold isDI; rw [Int.toNat_natCast, byt_out s k (by omega)]; exact (decide_eq_false fun h => by omega).symm)
    go_enter Tryd.func41, Tryd.ntmps41
    go_wp2
    go_ret
    exact ⟨ret_bool HC.out, rfl⟩
/-- A text whose first bytes are masked so far. -/
def MaskTo (s : ByteArray) (b : Bool) (k : Nat) (r : ByteArray) : Prop := r.size = k ∧ ∀ j, j < k → byt r j = maskAt s b j
theorem MaskTo.snoc {s : ByteArray} {b : Bool} {k : Nat} {r t : ByteArray} {c : Int} (h : MaskTo s b k r) (ht : t = one c) (c0 : 0 ≤ c) (c1 : c ≤ 255) (hc : maskAt s b k = c) : MaskTo s b (k + 1) (r ++ t) := by
  subst ht
  refine ⟨by rw [ByteArray.size_append, one_size, h.1], fun j hj => ?_⟩
  rcases Nat.lt_or_ge j k with hl | hl
  · rw [byt_left _ _ _ (by rw [h.1]; exact hl)]; exact h.2 j hl
  · obtain rfl : j = k := by omega
    rw [byt_right _ _ _ (by rw [h.1]; exact Nat.le_refl _), h.1, Nat.sub_self, byt_one _ c0 c1, hc]
theorem sl_lh (s : ByteArray) (a b : Nat) (h1 : a ≤ b) (h2 : b ≤ s.size) {i j : Int} (hi : i = a) (hj : j = b) (w : World) : (Instr.slice 9 (.string s) (some (.int .i64 i)) (some (.int .i64 j)) none).run Tryd.prog w = .ok (.string (s.extract a b)) w := by
  subst hi
  subst hj
  rw [run_slice_string w 9 s .i64 .i64 (a : Int) (b : Int) Tryd.underlying9 (by omega) (by omega) (by omega)]
  rfl
theorem sl_h (s : ByteArray) (b : Nat) (h2 : b ≤ s.size) {j : Int} (hj : j = b) (w : World) : (Instr.slice 9 (.string s) none (some (.int .i64 j)) none).run Tryd.prog w = .ok (.string (s.extract 0 b)) w := by
  subst hj
  rw [run_slice_string_h w 9 s Tryd.underlying9 .i64 (b : Int) (by omega) (by omega)]
  rfl
theorem sl_l (s : ByteArray) (a : Nat) (h2 : a ≤ s.size) {i : Int} (hi : i = a) (w : World) : (Instr.slice 9 (.string s) (some (.int .i64 i)) none none).run Tryd.prog w = .ok (.string (s.extract a s.size)) w := by
  subst hi
  rw [run_slice_string_l w 9 s Tryd.underlying9 .i64 (a : Int) (by omega) (by omega)]
  rfl
theorem sl_one (s : ByteArray) (k : Nat) (h : k < s.size) (w : World) : (Instr.slice 9 (.string s) (some (.int .i64 (k : Int))) (some (.int .i64 ((k : Int) + 1))) none).run Tryd.prog w = .ok (.string (one (byt s k))) w := by
  rw [sl_lh s k (k + 1) (by omega) (by omega) rfl (by omega), extract_one s k h]
theorem star_sz {c : UInt8} : (⟨#[c]⟩ : ByteArray).size = 1 := rfl
theorem chkE_bd (s : ByteArray) : 0 ≤ chkE s ∧ chkE s ≤ 9 := by unfold chkE; (repeat' split) <;> omega
set_option maxHeartbeats 3200000 in
theorem rmask_ok (s : ByteArray) (hs : s.size ≤ 1000) (hc : chkE s = 0) (h12 : 12 ≤ s.size) (w : World) :
    Calls Tryd.prog 18 #[.string s] w fun e w' => ∃ r, e = .returned (.string r) ∧ IsMask s true r ∧ w = w' := by
  have CK : Hid (∀ w, Calls Tryd.prog 16 #[.string s] w fun e w' => e = .returned (.int .i64 0) ∧ w = w') := Lib.hid fun w => by have := rcheck_any s hs w; rwa [hc] at this
  clear hc
  go_enter Tryd.func18, Tryd.ntmps18
  go_wp2_with fail
  go_loop [3, 4] (fun o i => ∃ (k : Nat) (r : ByteArray), k ≤ s.size ∧ o = .string r ∧ i = .int .i64 k ∧ Hid (MaskTo s true k r) ∧ r.size = k) (fun _ i => s.size - (intOf i).toNat)
  case atStart => exact ⟨0, _, Nat.zero_le _, rfl, rfl, Lib.hid ⟨rfl, fun j h => absurd h (by omega)⟩, rfl⟩
  case round =>
    obtain ⟨k, r, hk, rfl, rfl, HM, hz⟩ := hrel
    by_cases hlt : k < s.size
    · have hsl := fun w => sl_one s k hlt w
      have hxz := one_size (byt s k)
      have HB := Lib.hid (byt_bd s k)
      by_cases h6 : k < 6
      · have HV : Hid (maskAt s true k = byt s k) := Lib.hid (by unfold maskAt; simp [h6])
        go_wp2_with (go_at_call 16; refine (CK.out _).mono ?_; rintro e w' ⟨rfl, rfl⟩)
        go_round
        case rel => exact ⟨k + 1, _, by omega, rfl, by go_num, Lib.hid (HM.out.snoc rfl HB.out.1 HB.out.2 HV.out), by simp only [ByteArray.size_append, hxz, star_sz]; omega⟩
        case measure => simp [intOf]; omega
      · by_cases h4 : s.size ≤ k + 4
        · have HV : Hid (maskAt s true k = byt s k) := Lib.hid (by unfold maskAt; simp [h4])
          go_wp2_with (go_at_call 16; refine (CK.out _).mono ?_; rintro e w' ⟨rfl, rfl⟩)
          go_round
          case rel => exact ⟨k + 1, _, by omega, rfl, by go_num, Lib.hid (HM.out.snoc rfl HB.out.1 HB.out.2 HV.out), by simp only [ByteArray.size_append, hxz, star_sz]; omega⟩
          case measure => simp [intOf]; omega
        · have hxz := @star_sz
          have HV : Hid (maskAt s true k = 42) := Lib.hid (by unfold maskAt; simp [h4, h6])
          go_wp2_with (go_at_call 16; refine (CK.out _).mono ?_; rintro e w' ⟨rfl, rfl⟩)
          go_round
          case rel => exact ⟨k + 1, _, by omega, rfl, by go_num, Lib.hid (HM.out.snoc (show _ = one 42 from rfl) (by omega) (by omega) HV.out), by simp only [ByteArray.size_append, hxz, star_sz]; omega⟩
          case measure => simp [intOf]; omega
    · obtain rfl : k = s.size := by omega
      go_wp2
      go_ret
      exact ⟨_, rfl, HM.out, rfl⟩
set_option maxHeartbeats 3200000 in
theorem rmask_no (s : ByteArray) (hs : s.size ≤ 1000) (hc : chkE s ≠ 0) (w : World) :
    Calls Tryd.prog 18 #[.string s] w fun e w' => ∃ r, e = .returned (.string r) ∧ IsMask s false r ∧ w = w' := by
  have hcb := chkE_bd s
  have CK := Lib.hid (fun w => rcheck_any s hs w)
  generalize chkE s = c at *
  go_enter Tryd.func18, Tryd.ntmps18
  go_wp2_with fail
  go_loop [3, 4] (fun o i => ∃ (k : Nat) (r : ByteArray), k ≤ s.size ∧ o = .string r ∧ i = .int .i64 k ∧ Hid (MaskTo s false k r) ∧ r.size = k) (fun _ i => s.size - (intOf i).toNat)
  case atStart => exact ⟨0, _, Nat.zero_le _, rfl, rfl, Lib.hid ⟨rfl, fun j h => absurd h (by omega)⟩, rfl⟩
  case round =>
    obtain ⟨k, r, hk, rfl, rfl, HM, hz⟩ := hrel
    by_cases hlt : k < s.size
    · have hxz := @star_sz
      have HV : Hid (maskAt s false k = 42) := Lib.hid (by unfold maskAt; simp)
      go_wp2_with (go_at_call 16; refine (CK.out _).mono ?_; rintro e w' ⟨rfl, rfl⟩)
      go_round
      case rel => exact ⟨k + 1, _, by omega, rfl, by go_num, Lib.hid (HM.out.snoc (show _ = one 42 from rfl) (by omega) (by omega) HV.out), by simp only [ByteArray.size_append, hxz, star_sz]; omega⟩
      case measure => simp [intOf]; omega
    · obtain rfl : k = s.size := by omega
      go_wp2
      go_ret
      exact ⟨_, rfl, HM.out, rfl⟩
set_option maxHeartbeats 1600000 in
theorem rgroup_any (s : ByteArray) (hs : s.size ≤ 1000) (w : World) :
    Calls Tryd.prog 20 #[.string s] w fun e w' => e = .returned (.string (grp s s.size)) ∧ w = w' := by
  go_enter Tryd.func20, Tryd.ntmps20
  go_wp2_with fail
  go_loop [3, 4] (fun o i => ∃ (k : Nat) (r : ByteArray), k ≤ s.size ∧ o = .string r ∧ i = .int .i64 k ∧ Hid (r = grp s k) ∧ r.size ≤ 2 * k) (fun _ i => s.size - (intOf i).toNat)
  case atStart => exact ⟨0, _, Nat.zero_le _, rfl, rfl, Lib.hid rfl, Nat.zero_le _⟩
  case round =>
    obtain ⟨k, r, hk, rfl, rfl, HM, hz⟩ := hrel
    by_cases hlt : k < s.size
    · have hsl := fun w => sl_one s k hlt w
      have hxz := one_size (byt s k)
      by_cases h0 : 0 < k
      · by_cases h4 : k % 4 = 0
        · have h4i : (k : Int) % 4 = 0 := by omega
          have HS : Hid (grp s (k + 1) = r ++ (one 32) ++ one (byt s k)) := Lib.hid (by rw [grp, if_pos ⟨h0, h4⟩, HM.out])
          go_wp2
          go_round
          case rel => exact ⟨k + 1, _, by omega, rfl, by go_num, Lib.hid (by rw [HS.out]; rfl), by simp only [ByteArray.size_append, hxz, star_sz]; omega⟩
          case measure => simp [intOf]; omega
        · have h4i : ¬ (k : Int) % 4 = 0 := by omega
          have HS : Hid (grp s (k + 1) = r ++ one (byt s k)) := Lib.hid (by rw [grp, if_neg (fun h => h4 h.2), HM.out])
          go_wp2
          go_round
          case rel => exact ⟨k + 1, _, by omega, rfl, by go_num, Lib.hid (by rw [HS.out]), by simp only [ByteArray.size_append, hxz, star_sz]; omega⟩
          case measure => simp [intOf]; omega
      · have HS : Hid (grp s (k + 1) = r ++ one (byt s k)) := Lib.hid (by rw [grp, if_neg (fun h => h0 h.1), HM.out])
        go_wp2
        go_round
        case rel => exact ⟨k + 1, _, by omega, rfl, by go_num, Lib.hid (by rw [HS.out]), by simp only [ByteArray.size_append, hxz, star_sz]; omega⟩
        case measure => simp [intOf]; omega
    · obtain rfl : k = s.size := by omega
      go_wp2
      go_ret
      exact ⟨ret_str HM.out, rfl⟩
end Go.Proofs.YtddnfjaogekmjaaDoor

/-
  CONTRACTS of wire: texts of lower-case hexadecimal digits, the digits' values.
-/
import Derived.Test.YtjemljhfopgmiaaDoorW20
namespace Go.Proofs.YtjemljhfopgmiaaDoor
open Go.RowKit
set_option linter.unusedVariables false
set_option linter.unusedSimpArgs false
def lowB (c : Int) : Prop := (48 ≤ c ∧ c ≤ 57) ∨ (97 ≤ c ∧ c ≤ 102)
instance (c : Int) : Decidable (lowB c) := by unfold lowB; infer_instance
def LowP (s : ByteArray) : Prop := ∀ k, k < s.size → lowB (byt s k)
/-- The value of a digit. -/
def hv (c : Int) : Int := if c ≤ 57 then c - 48 else c - 87
theorem hv_bd {c : Int} (h : lowB c) : 0 ≤ hv c ∧ hv c ≤ 15 := by
  unfold lowB at h
  unfold hv
  split <;> omega
theorem hx_low : ∀ k, k < 16 → lowB (byt HX k) ∧ hv (byt HX k) = (k : Int) := by decide +kernel
theorem low_hx : ∀ n : Nat, n < 256 → lowB (n : Int) → byt HX (hv (n : Int)).toNat = (n : Int) := by decide +kernel
def hw (c : Int) : Int := if lowB c then hv c else -1
theorem snoc_low {s : ByteArray} {k : Nat} (h : ∀ j, j < k → lowB (byt s j)) (hk : lowB (byt s k)) : ∀ j, j < k + 1 → lowB (byt s j) := fun j hj => by
  rcases Nat.lt_or_ge j k with h1 | h1
  · exact h j h1
  · obtain rfl : j = k := by omega
    exact hk
set_option maxHeartbeats 1600000 in
theorem low_any (s : ByteArray) (hs : s.size ≤ 1000) (w : World) :
    Calls Tryd.prog 30 #[.string s] w fun e w' => ((LowP s ∧ e = .returned (.bool true)) ∨ (¬ LowP s ∧ e = .returned (.bool false))) ∧ w = w' := by
  go_enter Tryd.func30, Tryd.ntmps30
  go_wp2_with fail
  go_loop [3] (fun i => ∃ k : Nat, k ≤ s.size ∧ i = .int .i64 k ∧ (∀ j, j < k → lowB (byt s j))) (fun i => s.size - (intOf i).toNat)
  case atStart => exact ⟨0, Nat.zero_le _, rfl, fun j h => absurd h (by omega)⟩
  case round =>
    obtain ⟨k, hk, rfl, hall⟩ := hrel
    have HALL := Lib.hid hall
    clear hall
    by_cases hlt : k < s.size
    · have hb256 : s[k].toNat < 256 := s[k].toNat_lt
      have HG := Lib.hid (byt_get s k hlt)
      have HNO : Hid (¬ lowB (s[k].toNat : Int) → ¬ LowP s) := Lib.hid fun h hL => h (by rw [← HG.out]; exact hL k hlt)
      have HYES : Hid (lowB (s[k].toNat : Int) → ∀ j, j < k + 1 → lowB (byt s j)) := Lib.hid fun h => snoc_low HALL.out (by rw [HG.out]; exact h)
      by_cases hd : 48 ≤ (s[k].toNat : Int) ∧ (s[k].toNat : Int) ≤ 57
      · have HD : digitB (s[k].toNat : Int) = true := decide_eq_true hd
        have HL := Lib.hid (HYES.out (.inl hd))
        clear hd
        go_wp2_with (go_at_call 48; refine (digit_any _ (by omega) (by omega) _).mono ?_; rintro e w' ⟨rfl, rfl⟩; rw [HD])
        go_round
        case rel => exact ⟨k + 1, by omega, by go_num, HL.out⟩
        case measure => simp [intOf]; omega
      · have HD : digitB (s[k].toNat : Int) = false := decide_eq_false hd
        by_cases h1 : (s[k].toNat : Int) < 97
        · have HL := Lib.hid (HNO.out (by unfold lowB; omega))
          clear hd
          go_wp2_with (go_at_call 48; refine (digit_any _ (by omega) (by omega) _).mono ?_; rintro e w' ⟨rfl, rfl⟩; rw [HD])
          go_ret
          exact ⟨.inr ⟨HL.out, rfl⟩, rfl⟩
        · by_cases h2 : 102 < (s[k].toNat : Int)
          · have HL := Lib.hid (HNO.out (by unfold lowB; omega))
            clear hd
            go_wp2_with (go_at_call 48; refine (digit_any _ (by omega) (by omega) _).mono ?_; rintro e w' ⟨rfl, rfl⟩; rw [HD])
            go_ret
            exact ⟨.inr ⟨HL.out, rfl⟩, rfl⟩
          · have HL := Lib.hid (HYES.out (by unfold lowB; omega))
            clear hd
            go_wp2_with (go_at_call 48; refine (digit_any _ (by omega) (by omega) _).mono ?_; rintro e w' ⟨rfl, rfl⟩; rw [HD])
            go_round
            case rel => exact ⟨k + 1, by omega, by go_num, HL.out⟩
            case measure => simp [intOf]; omega
    · go_wp2
      go_ret
      exact ⟨.inl ⟨fun j hj => HALL.out j (by omega), rfl⟩, rfl⟩
theorem hexv_any (c : Int) (h : lowB c) (w : World) : Calls Tryd.prog 32 #[.int .u8 c] w fun e w' => e = .returned (.int .u8 (hv c)) ∧ w = w' := by
  have hh := h
  unfold lowB at h
  by_cases hd : 48 ≤ c ∧ c ≤ 57
  · have HD : digitB c = true := decide_eq_true hd
    have HV : Hid (hv c = c - 48) := Lib.hid (by unfold hv; rw [if_pos hd.2])
    obtain ⟨d0, d1⟩ := hd
    clear h hh
    go_enter Tryd.func32, Tryd.ntmps32
    go_wp2_with (go_at_call 48; refine (digit_any _ (by omega) (by omega) _).mono ?_; rintro e w' ⟨rfl, rfl⟩; rw [HD])
    go_ret
    exact ⟨ret_int HV.out.symm, rfl⟩
  · have HD : digitB c = false := decide_eq_false hd
    have HV : Hid (hv c = c - 97 + 10) := Lib.hid (by unfold hv; rw [if_neg (by omega)]; omega)
    have h1 : 97 ≤ c := by omega
    have h2 : c ≤ 102 := by omega
    clear h hh hd
    go_enter Tryd.func32, Tryd.ntmps32
    go_wp2_with (go_at_call 48; refine (digit_any _ (by omega) (by omega) _).mono ?_; rintro e w' ⟨rfl, rfl⟩; rw [HD])
    go_ret
    exact ⟨ret_int HV.out.symm, rfl⟩
theorem half_any (c : Int) (h0 : 0 ≤ c) (h1 : c ≤ 255) (w : World) : Calls Tryd.prog 34 #[.int .u8 c] w fun e w' => e = .returned (.int .i64 (hw c)) ∧ w = w' := by
  go_enter Tryd.func34, Tryd.ntmps34
  go_wp2_with fail
  go_loop [3] (fun i => ∃ k : Nat, k ≤ 16 ∧ i = .int .i64 k ∧ (∀ j, j < k → ¬ byt HX j = c)) (fun i => 16 - (intOf i).toNat)
  case atStart => exact ⟨0, Nat.zero_le _, rfl, fun j h => absurd h (by omega)⟩
  case round =>
    obtain ⟨k, hk, rfl, hall⟩ := hrel
    have HALL := Lib.hid hall
    clear hall
    by_cases hlt : k < 16
    · have hx : ∀ w, (Instr.index 9 (.string ⟨#[48, 49, 50, 51, 52, 53, 54, 55, 56, 57, 97, 98, 99, 100, 101, 102]⟩) (.int .i64 (k : Int))).run Tryd.prog w = .ok (.int .u8 (byt HX k)) w := fun w => ix_at HX k hlt rfl w
      have hy := byt_bd HX k
      have HK := Lib.hid (hx_low k hlt)
      by_cases he : byt HX k = c
      · have HE : Hid (hw c = (k : Int)) := Lib.hid (by unfold hw; rw [← he, if_pos HK.out.1, HK.out.2])
        have hb : (byt HX k == c) = true := by rw [he]; simp
        rw [he] at hx
        have hb2 : (c == c) = true := by simp
        clear he hb hy
        go_wp2
        go_ret
        exact ⟨ret_int HE.out.symm, rfl⟩
      · have HN : Hid (∀ j, j < k + 1 → ¬ byt HX j = c) := Lib.hid fun j hj => by
          rcases Nat.lt_or_ge j k with h1 | h1
          · exact HALL.out j h1
          · obtain rfl : j = k := by omega
            exact he
        have hb : (byt HX k == c) = false := by simpa using he
        generalize byt HX k = d at *
        go_wp2
        go_round
        case rel => exact ⟨k + 1, by omega, by go_num, HN.out⟩
        case measure => simp [intOf]; omega
    · have HE : Hid (hw c = -1) := Lib.hid (by
        unfold hw
        rw [if_neg]
        intro hL
        obtain ⟨n, rfl⟩ := Int.eq_ofNat_of_zero_le h0
        have := hv_bd hL
        exact HALL.out _ (by omega) (low_hx n (by omega) hL))
      go_wp2
      go_ret
      exact ⟨ret_int HE.out.symm, rfl⟩
end Go.Proofs.YtjemljhfopgmiaaDoor

/-
  CONTRACTS of dates: padded numbers, Format.
-/
import Derived.Test.YtaagifggeafgnaaDoorC5
import Derived.Test.YtaagifggeafgnaaDoorPM2
import Derived.Test.YtaagifggeafgnaaDoorKShelf
namespace Go.Proofs.YtaagifggeafgnaaDoor
open Go.RowKit Go.Lib
set_option linter.unusedVariables false
set_option linter.unusedSimpArgs false
def Pow (w : World) : Prop := Lib.TabIs Tryd.prog w "internal/strconv.uint64pow10" .u64 Lib.pow10Tab
theorem Pow.later {w w' : World} {B : Nat} (h : Pow w) (hb : Below B w w') (hB : 4 ≤ B) : Pow w' := by
  unfold Pow TabIs World.var? at *
  obtain ⟨k, hk, hk8⟩ : ∃ k, (Tryd.prog).globalNamed "internal/strconv.uint64pow10" = some k ∧ k < 4 := ⟨_, (by kernel_rfl : _ = some 1), by decide⟩
  simp only [hk, Option.bind_some] at h ⊢
  rw [hb.block k (by omega)]
  exact h
theorem nd_bd (u : Nat) : u < 10 ^ nDigits u ∧ (nDigits u = 1 ∨ 10 ^ (nDigits u - 1) ≤ u) := by
  induction u using Nat.strongRecOn with
  | _ u ih =>
    by_cases h : u < 10
    · rw [nDigits_small h]; exact ⟨by omega, .inl rfl⟩
    · obtain ⟨h1, h2⟩ := ih (u / 10) (by omega)
      rw [nDigits_big h, Nat.pow_succ, Nat.add_sub_cancel]
      refine ⟨by omega, .inr ?_⟩
      rcases h2 with h2 | h2
      · rw [h2]; omega
      · have hp := nDigits_pos (u / 10)
        obtain ⟨m, hm⟩ : ∃ m, nDigits (u / 10) = m + 1 := ⟨_, (Nat.succ_pred (by omega)).symm⟩
        rw [hm] at h2 ⊢
        rw [Nat.add_sub_cancel] at h2
        rw [Nat.pow_succ]
        omega
theorem nd_iff (u d : Nat) (hd : 1 ≤ d) : nDigits u ≤ d ↔ u < 10 ^ d := by
  obtain ⟨h1, h2⟩ := nd_bd u
  constructor
  · intro h
    exact Nat.lt_of_lt_of_le h1 (Nat.pow_le_pow_right (by decide) h)
  · intro h
    rcases h2 with h2 | h2
    · omega
    · apply Classical.byContradiction
      intro hn
      have := Nat.pow_le_pow_right (show 0 < 10 by decide) (show d ≤ nDigits u - 1 by omega)
      omega
theorem nd_mono (u : Nat) {d : Nat} (h : nDigits u ≤ d) : u < 10 ^ d := Nat.lt_of_lt_of_le (nd_bd u).1 (Nat.pow_le_pow_right (by decide) h)
theorem fmt_any (u : Nat) (h : u ≤ 9223372036854775807) (w : World) (hT : Pow w) : Calls Tryd.prog 43 #[.int .i64 (u : Int), .int .i64 10] w fun e w' => e = .returned (.string (decS u (nDigits u))) ∧ Below w.heap.size w w' := by
  refine (Tryd.strconv_FormatInt_10 (u : Int) (by omega) (by omega) w hT).mono ?_
  rintro e w' ⟨rfl, k, os, rfl⟩
  exact ⟨ret_str (by rw [itoa_nonneg, decS_all]), below_grow _ w (Nat.le_refl _) k os⟩
set_option maxHeartbeats 800000 in
theorem padded_any (u : Nat) (h : u ≤ 9223372036854775807) (d : Nat) (hd : d ≤ 30) (hn : nDigits u ≤ d) (w : World) (hT : Pow w) :
    Calls Tryd.prog 37 #[.int .i64 (u : Int), .int .i64 (d : Int)] w fun e w' => e = .returned (.string (decS u d)) ∧ Below w.heap.size w w' := by
  go_enter Tryd.func37, Tryd.ntmps37
  go_wp2_with fail
  go_at_call 43
  refine (fmt_any u h w hT).mono ?_
  rintro e w1 ⟨rfl, hb1⟩
  have HN := Lib.hid hn
  clear hn
  go_wp2_with fail
  go_loop [5] (fun s => ∃ k : Nat, nDigits u ≤ k ∧ k ≤ d ∧ s = .string (decS u k)) (fun s => d - (match s with | .string t => t.size | _ => 0))
  case atStart => exact ⟨_, Nat.le_refl _, HN.out, rfl⟩
  case round =>
    obtain ⟨k, hk, hkd, rfl⟩ := hrel
    have hz := decS_size u k
    have hP := Lib.hid (decS_pad (nd_mono u hk))
    have hz1 : (⟨#[48]⟩ : ByteArray).size = 1 := rfl
    by_cases hlt : k < d
    · go_wp2
      go_round
      case rel => exact ⟨k + 1, by omega, by omega, by rw [hP.out]⟩
      case measure => simp [ByteArray.size_append, hz, hz1]; omega
    · obtain rfl : k = d := by omega
      go_wp2
      go_ret
      exact ⟨rfl, hb1⟩
theorem sl_lh (s : ByteArray) (a b : Nat) (h1 : a ≤ b) (h2 : b ≤ s.size) {i j : Int} (hi : i = a) (hj : j = b) (w : World) : (Instr.slice 9 (.string s) (some (.int .i64 i)) (some (.int .i64 j)) none).run Tryd.prog w = .ok (.string (s.extract a b)) w := by
  subst hi
  subst hj
  rw [run_slice_string w 9 s .i64 .i64 (a : Int) (b : Int) Tryd.underlying9 (by omega) (by omega) (by omega)]
  rfl
theorem sl_h (s : ByteArray) (b : Nat) (h2 : b ≤ s.size) {j : Int} (hj : j = b) (w : World) : (Instr.slice 9 (.string s) none (some (.int .i64 j)) none).run Tryd.prog w = .ok (.string (s.extract 0 b)) w := by
  subst hj
  rw [run_slice_string_h w 9 s Tryd.underlying9 .i64 (b : Int) (by omega) (by omega)]
  rfl
theorem sl_l (s : ByteArray) (a : Nat) (h2 : a ≤ s.size) {i : Int} (hi : i = a) (w : World) : (Instr.slice 9 (.string s) (some (.int .i64 i)) none none).run Tryd.prog w = .ok (.string (s.extract a s.size)) w := by
  subst hi
  rw [run_slice_string_l w 9 s Tryd.underlying9 .i64 (a : Int) (by omega) (by omega)]
  rfl
theorem sl_one (s : ByteArray) (k : Nat) (h : k < s.size) (w : World) : (Instr.slice 9 (.string s) (some (.int .i64 (k : Int))) (some (.int .i64 ((k : Int) + 1))) none).run Tryd.prog w = .ok (.string (one (byt s k))) w := by
  rw [sl_lh s k (k + 1) (by omega) (by omega) rfl (by omega), extract_one s k h]
theorem ix_at (s : ByteArray) (k : Nat) (h : k < s.size) {i : Int} (hi : i = k) (w : World) : (Instr.index 9 (.string s) (.int .i64 i)).run Tryd.prog w = .ok (.int .u8 (byt s k)) w := by
  subst hi
  rw [run_index_string w 9 s .i64 (k : Int) Tryd.underlying9, dif_pos ⟨by omega, by omega⟩, byt_get s k h]
  rfl
theorem dig_one (c : Nat) (h : c < 10) : (⟨#[48, 49, 50, 51, 52, 53, 54, 55, 56, 57]⟩ : ByteArray).extract c (c + 1) = ⟨#[UInt8.ofNat (48 + c)]⟩ := by
  rcases c with _ | _ | _ | _ | _ | _ | _ | _ | _ | _ | c
  all_goals first | rfl | decide | omega
/-- The text of a date. -/
def fmtS (y m d : Nat) : ByteArray := decS y 4 ++ ⟨#[45]⟩ ++ decS m 2 ++ ⟨#[45]⟩ ++ decS d 2
set_option maxHeartbeats 800000 in
theorem rdigits_any (u : Nat) (hu : u ≤ 100000) (d : Nat) (hd : d ≤ 30) (w : World) :
    Calls Tryd.prog 38 #[.int .i64 (u : Int), .int .i64 (d : Int)] w fun e w' => e = .returned (.string (decS u d)) ∧ w = w' := by
  go_enter Tryd.func38, Tryd.ntmps38
  go_wp2_with fail
  go_loop [0, 5, 6] (fun n s i => ∃ k : Nat, k ≤ d ∧ i = .int .i64 (k : Int) ∧ n = .int .i64 ((u / 10 ^ k : Nat) : Int) ∧ s = .string (decS u k)) (fun _ _ i => d - (RowKit.intOf i).toNat)
  case atStart => exact ⟨0, Nat.zero_le _, rfl, by simp, by rfl⟩
  case round =>
    obtain ⟨k, hk, rfl, rfl, rfl⟩ := hrel
    have hz := decS_size u k
    by_cases hlt : k < d
    · have HP := Lib.hid (decS_cons u k)
      have HQ : Hid (u / 10 ^ (k + 1) = u / 10 ^ k / 10) := Lib.hid (by rw [Nat.pow_succ, Nat.div_div_eq_div_mul])
      have HD : Hid (dg u k = UInt8.ofNat (48 + u / 10 ^ k % 10)) := Lib.hid (by unfold dg; rfl)
      have hv : u / 10 ^ k ≤ 100000 := Nat.le_trans (Nat.div_le_self _ _) hu
      generalize u / 10 ^ k = v at *
      generalize decS u k = t at *
      have hs1 := fun w => sl_lh ⟨#[48, 49, 50, 51, 52, 53, 54, 55, 56, 57]⟩ (v % 10) (v % 10 + 1) (by omega) (by show v % 10 + 1 ≤ 10; omega) (i := (v : Int) % 10) (j := (v : Int) % 10 + 1) (by omega) (by omega) w
      rw [dig_one _ (by omega), ← HD.out] at hs1
      have hz1 : (⟨#[dg u k]⟩ : ByteArray).size = 1 := rfl
      generalize (⟨#[dg u k]⟩ : ByteArray) = o at *
      go_wp2
      go_round
      case rel => exact ⟨k + 1, by omega, by go_num, val_int (by rw [HQ.out]; omega), by rw [HP.out]⟩
      case measure => simp [RowKit.intOf]; omega
    · obtain rfl : k = d := by omega
      go_wp2
      go_ret
      exact ⟨rfl, rfl⟩
end Go.Proofs.YtaagifggeafgnaaDoor

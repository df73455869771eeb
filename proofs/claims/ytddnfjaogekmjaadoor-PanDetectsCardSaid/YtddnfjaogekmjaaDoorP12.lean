/-
  CONTRACTS of card numbers: padded numbers, the program's Make.
-/
import Derived.Test.YtddnfjaogekmjaaDoorP11
namespace Go.Proofs.YtddnfjaogekmjaaDoor
open Go.RowKit Go.Lib
set_option linter.unusedVariables false
set_option linter.unusedSimpArgs false
def Pow (w : World) : Prop := Lib.TabIs Tryd.prog w "internal/strconv.uint64pow10" .u64 Lib.pow10Tab
theorem Pow.later {w w' : World} {B : Nat} (h : Pow w) (hb : Below B w w') (hB : 4 ≤ B) : Pow w' := by
  unfold Pow TabIs World.var? at *
  obtain ⟨k, hk, hk8⟩ : ∃ k, (Tryd.prog).globalNamed "internal/strconv.uint64pow10" = some k ∧ k < 4 := ⟨_, (by kernel_rfl : _ = some 3), by decide⟩
  simp only [hk, Option.bind_some] at h ⊢
  rw [hb.block k (by omega)]
  exact h
theorem nd_bd (u : Nat) : u < 10 ^ nDigits u ∧ (nDigits u = 1 ∨ 10 ^ (nDigits u - 1) ≤ u) := by
  induction u using Nat.strongRecOn with
  | _ u ih =>
    by_cases h : u < 10
    · rw [nDigits_small h]; exact ⟨by omega, .inl rfl⟩
    · obtain ⟨h1, h2⟩ := ih (u / 10) (by omega)
      rw [nDigits_big h, Nat.pow_succ, Nat.add_sub_cancel]
      refine ⟨by omega, .inr ?_⟩
      rcases h2 with h2 | h2
      · rw [h2]; omega
      · have hp := nDigits_pos (u / 10)
        obtain ⟨m, hm⟩ : ∃ m, nDigits (u / 10) = m + 1 := ⟨_, (Nat.succ_pred (by omega)).symm⟩
        rw [hm] at h2 ⊢
        rw [Nat.add_sub_cancel] at h2
        rw [Nat.pow_succ]
        omega
theorem nd_iff (u d : Nat) (hd : 1 ≤ d) : nDigits u ≤ d ↔ u < 10 ^ d := by
  obtain ⟨h1, h2⟩ := nd_bd u
  constructor
  · intro h
    exact Nat.lt_of_lt_of_le h1 (Nat.pow_le_pow_right (by decide) h)
  · intro h
    rcases h2 with h2 | h2
    · omega
    · apply Classical.byContradiction
      intro hn
      have := Nat.pow_le_pow_right (show 0 < 10 by decide) (show d ≤ nDigits u - 1 by omega)
      omega
theorem nd_mono (u : Nat) {d : Nat} (h : nDigits u ≤ d) : u < 10 ^ d := Nat.lt_of_lt_of_le (nd_bd u).1 (Nat.pow_le_pow_right (by decide) h)
theorem fmt_any (u : Nat) (h : u ≤ 9223372036854775807) (w : World) (hT : Pow w) : Calls Tryd.prog 48 #[.int .i64 (u : Int), .int .i64 10] w fun e w' => e = .returned (.string (decS u (nDigits u))) ∧ Below w.heap.size w w' := by
  refine (Tryd.strconv_FormatInt_10 (u : Int) (by omega) (by omega) w hT).mono ?_
  rintro e w' ⟨rfl, k, os, rfl⟩
  exact ⟨ret_str (by rw [itoa_nonneg, decS_all]), below_grow _ w (Nat.le_refl _) k os⟩
theorem itoa_any (u : Nat) (h : u ≤ 9223372036854775807) (w : World) (hT : Pow w) : Calls Tryd.prog 36 #[.int .i64 (u : Int)] w fun e w' => e = .returned (.string (decS u (nDigits u))) ∧ Below w.heap.size w w' := by
  refine (Tryd.strconv_Itoa (u : Int) (by omega) (by omega) w hT).mono ?_
  rintro e w' ⟨rfl, k, os, rfl⟩
  exact ⟨ret_str (by rw [itoa_nonneg, decS_all]), below_grow _ w (Nat.le_refl _) k os⟩
set_option maxHeartbeats 800000 in
theorem padded_any (u : Nat) (h : u ≤ 9223372036854775807) (d : Nat) (hd : d ≤ 30) (hn : nDigits u ≤ d) (w : World) (hT : Pow w) :
    Calls Tryd.prog 37 #[.int .i64 (u : Int), .int .i64 (d : Int)] w fun e w' => e = .returned (.string (decS u d)) ∧ Below w.heap.size w w' := by
  go_enter Tryd.func37, Tryd.ntmps37
  go_wp2_with fail
  go_at_call 48
  refine (fmt_any u h w hT).mono ?_
  rintro e w1 ⟨rfl, hb1⟩
  have HN := Lib.hid hn
  clear hn
  go_wp2_with fail
  go_loop [5] (fun s => ∃ k : Nat, nDigits u ≤ k ∧ k ≤ d ∧ s = .string (decS u k)) (fun s => d - (match s with | .string t => t.size | _ => 0))
  case atStart => exact ⟨_, Nat.le_refl _, HN.out, rfl⟩
  case round =>
    obtain ⟨k, hk, hkd, rfl⟩ := hrel
    have hz := decS_size u k
    have hP := Lib.hid (decS_pad (nd_mono u hk))
    have hz1 : (⟨#[48]⟩ : ByteArray).size = 1 := rfl
    by_cases hlt : k < d
    · go_wp2
      go_round
      case rel => exact ⟨k + 1, by omega, by omega, by rw [hP.out]⟩
      case measure => simp [ByteArray.size_append, hz, hz1]; omega
    · obtain rfl : k = d := by omega
      go_wp2
      go_ret
      exact ⟨rfl, hb1⟩
end Go.Proofs.YtddnfjaogekmjaaDoor

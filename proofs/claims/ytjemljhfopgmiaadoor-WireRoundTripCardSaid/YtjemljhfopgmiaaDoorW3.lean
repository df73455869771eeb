/-
  CONTRACTS of wire: the specification's Num.
-/
import Derived.Test.YtjemljhfopgmiaaDoorW2
import Derived.Laws.BytesArg
namespace Go.Proofs.YtjemljhfopgmiaaDoor
open Go.RowKit
open Go.Lib hiding intOf
set_option linter.unusedVariables false
set_option linter.unusedSimpArgs false
theorem dg_one (u j : Nat) : one (48 + ((u / 10 ^ j % 10 : Nat) : Int)) = ⟨#[dg u j]⟩ := by
  unfold one
  congr 2
theorem one_str (b : Nat) (c : Int) (w : World) (h : w.cell? ⟨b, 0, none⟩ = some (.int .u8 c)) : (convert 44 9 (.slice (some ⟨b, 0, none⟩) 1 1)).run Tryd.prog w = .ok (.string (one c)) w := by
  rw [run_convert_bytes_arg w 44 5 Tryd.underlying44 Tryd.underlying5 b 0 1 1 [c] rfl (fun i hi => by have h0 : i = 0 := (by omega); subst h0; exact h) 9 Tryd.underlying9]
  rfl
theorem one_new (c : Int) (w : World) : (convert 44 9 (.slice (some ⟨w.heap.size, 0, none⟩) 1 1)).run Tryd.prog (w.alloc (.cells #[.int .u8 c] 5)) = .ok (.string (one c)) (w.alloc (.cells #[.int .u8 c] 5)) :=
  one_str _ _ _ (by rw [World.cell?_alloc_new]; rfl)
set_option maxHeartbeats 1600000 in
set_option maxRecDepth 4000 in
theorem rnum_all (u d : Nat) (h : u ≤ 9223372036854775807) (d1 : 1 ≤ d) (d2 : d ≤ 15) (w : World) :
    Calls Tryd.prog 8 #[.int .i64 (u : Int), .int .i64 (d : Int)] w fun e w' => ((u < 10 ^ d ∧ e = .returned (.tuple #[.string (decS u d), .int .i64 0])) ∨ (10 ^ d ≤ u ∧ e = .returned (.tuple #[.string ByteArray.empty, .int .i64 4]))) ∧ Below w.heap.size w w' := by
  go_enter Tryd.func8, Tryd.ntmps8
  go_wp2_with fail
  go_loopw [0, 6, 7] (fun n s i wr => ∃ j : Nat, j ≤ d ∧ n = .int .i64 ((u / 10 ^ j : Nat) : Int) ∧ s = .string (decS u j) ∧ i = .int .i64 (j : Int) ∧ Below w.heap.size w wr) (fun _ _ i _ => d - (intOf i).toNat)
  case atStart => exact ⟨0, Nat.zero_le _, by simp, rfl, rfl, Below.refl _ _⟩
  case round =>
    obtain ⟨j, hj, rfl, rfl, rfl, hb⟩ := hrel
    have hq : u / 10 ^ j ≤ 9223372036854775807 := Nat.le_trans (Nat.div_le_self _ _) h
    by_cases hlt2 : j < d
    · have HQ1 : Hid (u / 10 ^ j / 10 = u / 10 ^ (j + 1)) := Lib.hid (by rw [Nat.pow_succ, Nat.div_div_eq_div_mul])
      have HS : Hid (one (48 + ((u / 10 ^ j % 10 : Nat) : Int)) ++ decS u j = decS u (j + 1)) := Lib.hid (by rw [dg_one, decS_cons])
      generalize u / 10 ^ j = q at *
      have hz := decS_size u j
      have HS2 : Hid (one (48 + (q : Int) % 10) ++ decS u j = decS u (j + 1)) := Lib.hid (by rw [← HS.out]; rfl)
      have hzo := one_size (48 + (q : Int) % 10)
      go_wp2_with fail
      rw [one_new]
      simp only [Result.andThen]
      rw [Oper.upon_value]
      generalize one (48 + (q : Int) % 10) = o at *
      go_wp2
      go_round
      case rel => exact ⟨j + 1, by omega, by rw [← HQ1.out]; go_num, by rw [HS2.out], by go_num, hb.alloc hb.size _⟩
      case measure => simp [intOf]; omega
    · obtain rfl : j = d := by omega
      by_cases hlt : u < 10 ^ j
      · have hq0 : u / 10 ^ j = 0 := Nat.div_eq_of_lt hlt
        rw [hq0]
        clear hq0 hq
        have HL := Lib.hid hlt
        clear hlt
        go_wp2
        go_ret2
        exact ⟨.inl ⟨HL.out, rfl⟩, hb⟩
      · have hq0 : 0 < u / 10 ^ j := Nat.div_pos (by omega) (Nat.pow_pos (by decide))
        have HL := Lib.hid hlt
        clear hlt
        generalize u / 10 ^ j = q at *
        go_wp2
        go_ret2
        exact ⟨.inr ⟨Nat.le_of_not_lt HL.out, rfl⟩, hb⟩
end Go.Proofs.YtjemljhfopgmiaaDoor

/-
  CONTRACTS of wire: the examples, awake.
-/
import Derived.Test.YtjemljhfopgmiaaGreatDoorZ15
namespace Go.Proofs.YtjemljhfopgmiaaGreatDoor
open Go.RowKit
set_option linter.unusedVariables false
set_option linter.unusedSimpArgs false
theorem byt_dec (s : ByteArray) (p : Int → Bool) (n : Nat) (hn : s.size = n) (h : (List.range n).all (fun k => p (byt s k)) = true) : ∀ k, k < s.size → p (byt s k) = true := fun k hk => List.all_eq_true.1 h k (List.mem_range.2 (by omega))
theorem a_alpha (w : World) : Calls Tryz.prog 22 #[.string ⟨#[97, 98]⟩, .int .i64 4] w fun e w' => e = .returned (.tuple #[.string ⟨#[97, 98, 32, 32]⟩, .int .i64 0]) ∧ Below w.heap.size w w' := by
  refine (alpha_any ⟨#[97, 98]⟩ 4 (by decide) w).mono ?_
  rintro e w' ⟨⟨t, c, hA, rfl⟩, hb⟩
  have hP : Prs ⟨#[97, 98]⟩ := fun k hk => by
    have hk2 : k < 2 := hk
    rcases (show k = 0 ∨ k = 1 by omega) with rfl | rfl <;> exact ⟨by decide, by decide⟩
  have hB : ¬ Blank ⟨#[97, 98]⟩ := fun h => absurd h.2 (by decide)
  have hC : AlphaP ⟨#[97, 98]⟩ 4 ⟨#[97, 98, 32, 32]⟩ 0 := .inr (.inr (.inr ⟨by decide, by decide, by decide, hP, hB, rfl, rfl⟩))
  obtain ⟨rfl, rfl⟩ := hA.uniq hC
  exact ⟨rfl, hb⟩
theorem a_var (w : World) (hT : Pow w) : Calls Tryz.prog 23 #[.string ⟨#[120, 124, 121]⟩, .int .i64 2] w fun e w' => e = .returned (.tuple #[.string ⟨#[48, 51, 120, 124, 121]⟩, .int .i64 0]) ∧ Below w.heap.size w w' := by
  refine (var_any ⟨#[120, 124, 121]⟩ 2 (by decide) w hT).mono ?_
  rintro e w' ⟨⟨t, c, hA, rfl⟩, hb⟩
  have hC : VarP ⟨#[120, 124, 121]⟩ 2 ⟨#[48, 51, 120, 124, 121]⟩ 0 := .inr (.inr ⟨.inl rfl, by decide, by decide, by decide, rfl⟩)
  obtain ⟨rfl, rfl⟩ := hA.uniq hC
  exact ⟨rfl, hb⟩
theorem a_hex (w : World) : Calls Tryz.prog 24 #[.string ⟨#[65]⟩] w fun e w' => e = .returned (.string ⟨#[52, 49]⟩) ∧ Below w.heap.size w w' := by
  refine (hex_any ⟨#[65]⟩ (by decide) w).mono ?_
  rintro e w' ⟨rfl, hb⟩
  exact ⟨ret_str (by decide), hb⟩
theorem a_num (w : World) (hT : Pow w) : Calls Tryz.prog 21 #[.int .i64 7, .int .i64 3] w fun e w' => e = .returned (.tuple #[.string ⟨#[48, 48, 55]⟩, .int .i64 0]) ∧ Below w.heap.size w w' := by
  refine (num_ok 7 3 (by decide) (by decide) (by decide) (by decide) w hT).mono ?_
  rintro e w' ⟨rfl, hb⟩
  exact ⟨ret_sc (by decide) rfl, hb⟩
end Go.Proofs.YtjemljhfopgmiaaGreatDoor

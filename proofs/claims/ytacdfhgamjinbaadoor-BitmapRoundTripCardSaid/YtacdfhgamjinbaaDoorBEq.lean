/-
  Two bitmaps are equal, word by word.
-/
import Derived.Test.YtacdfhgamjinbaaDoorKBase
import Derived.Test.YtacdfhgamjinbaaDoorKHexF
import Derived.ChangeKeysEq
namespace Go.Proofs.YtacdfhgamjinbaaDoor
open Go.RowKit
set_option linter.unusedVariables false
theorem eq_arr (a b c d : Int) (w : World) : (Op.equalIn 10000 24 (.agg #[.int .u64 a, .int .u64 b]) (.agg #[.int .u64 c, .int .u64 d])).run Tryd.prog w = .ok (decide (a = c ∧ b = d)) w := by
  obtain ⟨i, hi⟩ : ∃ i, Tryd.prog.info? 22 = some i := Option.isSome_iff_exists.mp (by kernel_rfl)
  have hu : Tryd.prog.underlying 24 = some (.array 2 22) := by kernel_rfl
  have hv : Tryd.prog.underlying 22 = some (.int .u64) := by kernel_rfl
  have hp : Tryd.prog.plainKey 22 = true := by kernel_rfl
  have hc : Tryd.prog.cellsOf 22 = 1 := by kernel_rfl
  have p0 : ∀ (x y : Value) (w : World), (part 22 #[x, y] 0).run Tryd.prog w = .ok x w := fun x y w => run_part_plain w hp rfl
  have p1 : ∀ (x y : Value) (w : World), (part 22 #[x, y] 1).run Tryd.prog w = .ok y w := fun x y w => run_part_plain w hp rfl
  have q : ∀ (x y : Int) (w : World), (Op.equalIn 9999 22 (.int .u64 x) (.int .u64 y)).run Tryd.prog w = .ok (x == y) w := fun x y w => run_equalIn_int w 9998 22 .u64 .u64 x y hv
  rw [show (10000 : Nat) = 9999 + 1 from rfl, run_equalIn_array w 9999 _ _ hu hi, show List.range 2 = [0, 1] from rfl, hc]
  simp only [Op.eqItems, Sem.run_bind, Nat.zero_mul, Nat.one_mul, p0, q, Result.andThen_ok]
  by_cases h1 : a = c
  · by_cases h2 : b = d
    · simp [h1, h2, p1, q]
    · simp [h1, h2, p1, q]
  · simp [h1]
end Go.Proofs.YtacdfhgamjinbaaDoor

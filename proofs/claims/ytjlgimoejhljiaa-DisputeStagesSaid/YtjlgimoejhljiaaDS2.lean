/-
  CONTRACTS of dispute: the parts of the examples.
-/
import Derived.Test.YtjlgimoejhljiaaDS1
import Derived.LoopN
namespace Go.Proofs.Ytjlgimoejhljiaa
open Go.RowKit
set_option linter.unusedVariables false
set_option linter.unusedSimpArgs false
theorem isname_fraud (w : World) : Calls Try.prog 19 #[.string ⟨#[102, 114, 97, 117, 100]⟩] w fun e w' => e = .returned (.bool true) ∧ w = w' := by
  go_enter Try.func19, Try.ntmps19
  go_wp2
  refine wp_loop_rounds 6 ?_
  rw [rounds_succ]
  go_wp2
  rw [rounds_succ]
  go_wp2
  rw [rounds_succ]
  go_wp2
  rw [rounds_succ]
  go_wp2
  rw [rounds_succ]
  go_wp2
  rw [rounds_succ]
  go_wp2
  go_ret
  exact ⟨rfl, rfl⟩
theorem n11 (w : World) : Calls Try.prog 4 #[.int .i64 1, .int .i64 1] w fun x w' => x = .returned (.tuple #[.int .i64 2, .int .i64 0]) ∧ w = w' := next_any 1 1 w
theorem n54 (w : World) : Calls Try.prog 4 #[.int .i64 5, .int .i64 4] w fun x w' => x = .returned (.tuple #[.int .i64 0, .int .i64 8]) ∧ w = w' := next_any 5 4 w
theorem n71 (w : World) : Calls Try.prog 4 #[.int .i64 7, .int .i64 1] w fun x w' => x = .returned (.tuple #[.int .i64 0, .int .i64 4]) ∧ w = w' := next_any 7 1 w
end Go.Proofs.Ytjlgimoejhljiaa

/-
  CONTRACTS of rates: Div64 with a high word of zero, for every low word.
-/
import Derived.Test.YtobnkfgikafanaaDoorR33
namespace Go.Proofs.YtobnkfgikafanaaDoor
open Go.RowKit
set_option linter.unusedVariables false
set_option linter.unusedSimpArgs false
set_option maxHeartbeats 1600000 in
theorem div64_wide (p d : Nat) (h1 : 1 ≤ d) (hp : (p : Int) ≤ 18446744073709551615) (w : World) : Calls Tryd.prog 47 #[.int .u64 0, .int .u64 (p : Int), .int .u64 (d : Int)] w fun x w' => x = .returned (.tuple #[.int .u64 ((p / d : Nat) : Int), .int .u64 ((p % d : Nat) : Int)]) ∧ Pushed w w' := by
  have n1 : ¬ (d : Int) = 0 := by omega
  have n2 : ((d : Int) == 0) = false := by simp; omega
  have n3 : ¬ (d : Int) ≤ 0 := by omega
  have t1 : (p : Int).tdiv (d : Int) = ((p / d : Nat) : Int) := by rw [Int.tdiv_eq_ediv_of_nonneg (by omega)]; rfl
  have t2 : (p : Int).tmod (d : Int) = ((p % d : Nat) : Int) := by rw [Int.tmod_eq_emod_of_nonneg (by omega)]; rfl
  have t3 : (p : Int) / (d : Int) = ((p / d : Nat) : Int) := rfl
  have t4 : (p : Int) % (d : Int) = ((p % d : Nat) : Int) := rfl
  have l1 : p / d ≤ p := Nat.div_le_self _ _
  have l2 : p % d ≤ p := Nat.mod_le _ _
  generalize p / d = q at *
  generalize p % d = r at *
  have w3 : IntKind.u64.wrap (q : Int) = (q : Int) := IntWalk.u64_in _ (by omega)
  have w4 : IntKind.u64.wrap (r : Int) = (r : Int) := IntWalk.u64_in _ (by omega)
  clear hp l1 l2 h1
  go_enter Tryd.func47, Tryd.ntmps47
  go_wp2_with fail
  go_quiet (fail)
  go_wp2
  go_ret2
  exact ⟨rfl, (by repeat (first | with_reducible exact Pushed.refl _ | with_reducible assumption | with_reducible refine Pushed.push ?_ _ | with_reducible refine Pushed.alloc ?_ _ | with_reducible refine Pushed.drewN ?_ _ | with_reducible refine Pushed.drew ?_))⟩
end Go.Proofs.YtobnkfgikafanaaDoor

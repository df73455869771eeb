/-
  CONTRACTS of the life cycle's Next, the program's and the specification's: one plain function of the state and the event.
-/
import Derived.Test.YtacdfhgamjinbabDigits
namespace Go.Proofs.Ytacdfhgamjinbab
open Go.RowKit
set_option linter.unusedVariables false
def nextS (s e : Int) : Int := if e < 1 ∨ 4 < e ∨ s < 1 ∨ 4 < s then 0 else if (e = 1 ∧ s = 1) ∨ (e = 3 ∧ s = 3) then 2 else if e = 2 ∧ s = 2 then 3 else if e = 4 ∧ s ≠ 4 then 4 else 0
def nextE (s e : Int) : Int := if e < 1 ∨ 4 < e ∨ s < 1 ∨ 4 < s then 4 else if (e = 1 ∧ s = 1) ∨ (e = 3 ∧ s = 3) then 0 else if e = 2 ∧ s = 2 then 0 else if e = 4 ∧ s ≠ 4 then 0 else 8
theorem ret2 {a b c d : Int} (h : a = c) (h' : b = d) : Ending.returned (.tuple #[.int .i64 a, .int .i64 b]) = .returned (.tuple #[.int .i64 c, .int .i64 d]) := by rw [h, h']
theorem next_any (s e : Int) (w : World) : Calls Try.prog 18 #[.int .i64 s, .int .i64 e] w fun z w' => z = .returned (.tuple #[.int .i64 (nextS s e), .int .i64 (nextE s e)]) ∧ w = w' := by
  go_enter Try.func18, Try.ntmps18
  go_wp2
  all_goals go_ret2
  all_goals (try simp only [beq_iff_eq, beq_eq_false_iff_ne, bne_iff_ne, ne_eq, bne_eq_false_iff_eq] at *)
  all_goals exact ⟨ret2 (by unfold nextS; (repeat' split) <;> first | rfl | omega) (by unfold nextE; (repeat' split) <;> first | rfl | omega), by trivial⟩
theorem rnext_any (s e : Int) (w : World) : Calls Try.prog 19 #[.int .i64 s, .int .i64 e] w fun z w' => z = .returned (.tuple #[.int .i64 (nextS s e), .int .i64 (nextE s e)]) ∧ w = w' := by
  go_enter Try.func19, Try.ntmps19
  go_wp2
  all_goals go_ret2
  all_goals (try simp only [beq_iff_eq, beq_eq_false_iff_ne, bne_iff_ne, ne_eq, bne_eq_false_iff_eq] at *)
  all_goals exact ⟨ret2 (by unfold nextS; (repeat' split) <;> first | rfl | omega) (by unfold nextE; (repeat' split) <;> first | rfl | omega), by trivial⟩
def okDate (n : Int) : Bool := decide (0 ≤ n ∧ n ≤ 99999)
def okAmt (n : Int) : Bool := decide (0 ≤ n ∧ n ≤ 999999999999)
theorem isDate_any (n : Int) (w : World) : Calls Try.prog 25 #[.int .i64 n] w fun e w' => e = .returned (.bool (okDate n)) ∧ w = w' := by
  go_enter Try.func25, Try.ntmps25
  go_wp2
  all_goals go_ret
  all_goals exact ⟨ret_bool (by first | (unfold okDate; rw [Bool.eq_iff_iff]; simp; omega) | (unfold okAmt; rw [Bool.eq_iff_iff]; simp; omega)), rfl⟩
theorem possible_any (n : Int) (w : World) : Calls Try.prog 26 #[.int .i64 n] w fun e w' => e = .returned (.bool (okAmt n)) ∧ w = w' := by
  go_enter Try.func26, Try.ntmps26
  go_wp2
  all_goals go_ret
  all_goals exact ⟨ret_bool (by first | (unfold okDate; rw [Bool.eq_iff_iff]; simp; omega) | (unfold okAmt; rw [Bool.eq_iff_iff]; simp; omega)), rfl⟩
/-- What a digit counts in the sum of Luhn. -/
def cnt (d : Int) (b : Bool) : Int := if b then (if 9 < d * 2 then d * 2 - 9 else d * 2) else (if 9 < d then d - 9 else d)
theorem counted_any (d : Int) (b : Bool) (h0 : 0 ≤ d) (h1 : d ≤ 9) (w : World) : Calls Try.prog 42 #[.int .i64 d, .bool b] w fun e w' => e = .returned (.int .i64 (cnt d b)) ∧ w = w' := by
  cases b
  all_goals go_enter Try.func42, Try.ntmps42
  all_goals go_wp2
  all_goals go_ret
  all_goals exact ⟨ret_int (by unfold cnt; (repeat' split) <;> first | rfl | omega | simp_all), rfl⟩
end Go.Proofs.Ytacdfhgamjinbab

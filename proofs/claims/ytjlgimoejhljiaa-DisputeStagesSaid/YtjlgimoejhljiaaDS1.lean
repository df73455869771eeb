/-
  CONTRACTS of dispute: the stages and the turns, the program's and the specification's.
-/
import Derived.Test.YtjlgimoejhljiaaChecked
import Derived.Lib.Hide
import Derived.Below
import Derived.WalkLawsBesides
namespace Go.Proofs.Ytjlgimoejhljiaa
open Go.RowKit
set_option linter.unusedVariables false
set_option linter.unusedSimpArgs false
/-- The stage behind an event, and the error. -/
def nextN (s e : Int) : Int × Int :=
  if s < 1 ∨ 6 < s ∨ e < 1 ∨ 7 < e then (0, 4)
  else if s = 1 then (if e = 1 then (2, 0) else if e = 4 ∨ e = 7 then (5, 0) else (0, 8))
  else if s = 2 then (if e = 2 then (3, 0) else if e = 4 ∨ e = 7 then (6, 0) else (0, 8))
  else if s = 3 then (if e = 3 then (4, 0) else if e = 4 ∨ e = 7 then (5, 0) else (0, 8))
  else if s = 4 then (if e = 5 then (5, 0) else if e = 6 then (6, 0) else (0, 8))
  else (0, 8)
def turnN (s : Int) : Int := if s = 1 ∨ s = 3 then 1 else if s = 2 then 2 else if s = 4 then 3 else 0
theorem nextN_out {s e : Int} (h : s < 1 ∨ 6 < s ∨ e < 1 ∨ 7 < e) : nextN s e = (0, 4) := by unfold nextN; rw [if_pos h]
abbrev NX (s e : Int) : Value := .tuple #[.int .i64 (nextN s e).1, .int .i64 (nextN s e).2]
set_option maxHeartbeats 6400000 in
theorem next_any (s e : Int) (w : World) : Calls Try.prog 4 #[.int .i64 s, .int .i64 e] w fun x w' => x = .returned (NX s e) ∧ w = w' := by
  by_cases h0 : s < 1
  · have HX : Hid (NX s e = .tuple #[.int .i64 0, .int .i64 4]) := Lib.hid (by unfold NX; rw [nextN_out (by omega)])
    go_enter Try.func4, Try.ntmps4
    go_wp2
    go_ret2
    exact ⟨congrArg _ HX.out.symm, rfl⟩
  by_cases h1 : 6 < s
  · have HX : Hid (NX s e = .tuple #[.int .i64 0, .int .i64 4]) := Lib.hid (by unfold NX; rw [nextN_out (by omega)])
    go_enter Try.func4, Try.ntmps4
    go_wp2
    go_ret2
    exact ⟨congrArg _ HX.out.symm, rfl⟩
  by_cases h2 : e < 1
  · have HX : Hid (NX s e = .tuple #[.int .i64 0, .int .i64 4]) := Lib.hid (by unfold NX; rw [nextN_out (by omega)])
    go_enter Try.func4, Try.ntmps4
    go_wp2
    go_ret2
    exact ⟨congrArg _ HX.out.symm, rfl⟩
  by_cases h3 : 7 < e
  · have HX : Hid (NX s e = .tuple #[.int .i64 0, .int .i64 4]) := Lib.hid (by unfold NX; rw [nextN_out (by omega)])
    go_enter Try.func4, Try.ntmps4
    go_wp2
    go_ret2
    exact ⟨congrArg _ HX.out.symm, rfl⟩
  rcases (show s = 1 ∨ s = 2 ∨ s = 3 ∨ s = 4 ∨ s = 5 ∨ s = 6 by omega) with rfl | rfl | rfl | rfl | rfl | rfl <;> rcases (show e = 1 ∨ e = 2 ∨ e = 3 ∨ e = 4 ∨ e = 5 ∨ e = 6 ∨ e = 7 by omega) with rfl | rfl | rfl | rfl | rfl | rfl | rfl <;>
    (clear h0 h1 h2 h3; go_enter Try.func4, Try.ntmps4; go_wp2; go_ret2; exact ⟨rfl, rfl⟩)
set_option maxHeartbeats 6400000 in
theorem rnext_any (s e : Int) (w : World) : Calls Try.prog 5 #[.int .i64 s, .int .i64 e] w fun x w' => x = .returned (NX s e) ∧ w = w' := by
  by_cases h0 : s < 1
  · have HX : Hid (NX s e = .tuple #[.int .i64 0, .int .i64 4]) := Lib.hid (by unfold NX; rw [nextN_out (by omega)])
    go_enter Try.func5, Try.ntmps5
    go_wp2
    go_ret2
    exact ⟨congrArg _ HX.out.symm, rfl⟩
  by_cases h1 : 6 < s
  · have HX : Hid (NX s e = .tuple #[.int .i64 0, .int .i64 4]) := Lib.hid (by unfold NX; rw [nextN_out (by omega)])
    go_enter Try.func5, Try.ntmps5
    go_wp2
    go_ret2
    exact ⟨congrArg _ HX.out.symm, rfl⟩
  by_cases h2 : e < 1
  · have HX : Hid (NX s e = .tuple #[.int .i64 0, .int .i64 4]) := Lib.hid (by unfold NX; rw [nextN_out (by omega)])
    go_enter Try.func5, Try.ntmps5
    go_wp2
    go_ret2
    exact ⟨congrArg _ HX.out.symm, rfl⟩
  by_cases h3 : 7 < e
  · have HX : Hid (NX s e = .tuple #[.int .i64 0, .int .i64 4]) := Lib.hid (by unfold NX; rw [nextN_out (by omega)])
    go_enter Try.func5, Try.ntmps5
    go_wp2
    go_ret2
    exact ⟨congrArg _ HX.out.symm, rfl⟩
  rcases (show s = 1 ∨ s = 2 ∨ s = 3 ∨ s = 4 ∨ s = 5 ∨ s = 6 by omega) with rfl | rfl | rfl | rfl | rfl | rfl <;> rcases (show e = 1 ∨ e = 2 ∨ e = 3 ∨ e = 4 ∨ e = 5 ∨ e = 6 ∨ e = 7 by omega) with rfl | rfl | rfl | rfl | rfl | rfl | rfl <;>
    (clear h0 h1 h2 h3; go_enter Try.func5, Try.ntmps5; go_wp2; go_ret2; exact ⟨rfl, rfl⟩)
theorem turn_any (s : Int) (w : World) : Calls Try.prog 6 #[.int .i64 s] w fun x w' => x = .returned (.int .i64 (turnN s)) ∧ w = w' := by
  by_cases h : s = 1 ∨ s = 2 ∨ s = 3 ∨ s = 4
  · rcases h with rfl | rfl | rfl | rfl <;> (go_enter Try.func6, Try.ntmps6; go_wp2; go_ret; exact ⟨rfl, rfl⟩)
  · have HT : Hid (turnN s = 0) := Lib.hid (by unfold turnN; rw [if_neg (by omega), if_neg (by omega), if_neg (by omega)])
    have z1 : (s == 1) = false := beq_false_of_ne (by omega)
    have z2 : (s == 2) = false := beq_false_of_ne (by omega)
    have z3 : (s == 3) = false := beq_false_of_ne (by omega)
    have z4 : (s == 4) = false := beq_false_of_ne (by omega)
    clear h
    go_enter Try.func6, Try.ntmps6
    go_wp2
    go_ret
    rw [HT.out]
    exact ⟨rfl, rfl⟩
theorem rturn_any (s : Int) (w : World) : Calls Try.prog 7 #[.int .i64 s] w fun x w' => x = .returned (.int .i64 (turnN s)) ∧ w = w' := by
  by_cases h : s = 1 ∨ s = 2 ∨ s = 3 ∨ s = 4
  · rcases h with rfl | rfl | rfl | rfl <;> (go_enter Try.func7, Try.ntmps7; go_wp2; go_ret; exact ⟨rfl, rfl⟩)
  · have HT : Hid (turnN s = 0) := Lib.hid (by unfold turnN; rw [if_neg (by omega), if_neg (by omega), if_neg (by omega)])
    have z1 : (s == 1) = false := beq_false_of_ne (by omega)
    have z2 : (s == 2) = false := beq_false_of_ne (by omega)
    have z3 : (s == 3) = false := beq_false_of_ne (by omega)
    have z4 : (s == 4) = false := beq_false_of_ne (by omega)
    clear h
    go_enter Try.func7, Try.ntmps7
    go_wp2
    go_ret
    rw [HT.out]
    exact ⟨rfl, rfl⟩
end Go.Proofs.Ytjlgimoejhljiaa

/-
  CONTRACTS of auth.New, and of the examples that every statement of this package reckons again ('awake').
-/
import Derived.Test.YtmigodjkenhedaaAuth7c
namespace Go.Proofs.Ytmigodjkenhedaa
open Go.RowKit
set_option linter.unusedVariables false
section
variable (id cur : ByteArray) (w : World)
theorem new_ok (amount at_ un : Int) (hi : id.size ≤ maxLen) (hcu : cur.size ≤ maxLen) (HC : Hid (0 = auCheck (identB id.data.toList 16) (curB cur.data.toList) amount 0 0 0 1 at_ un 0)) :
    Calls Try.prog 8 #[.string id, .string cur, .int .i64 amount, .int .i64 at_, .int .i64 un] w fun e w' => e = .returned (.tuple #[auV id cur amount 0 0 0 1 at_ un 0, .int .i64 0]) ∧ Pushed w w' := by
  go_enter Try.func8, Try.ntmps8
  go_wp2_with (go_at_call 20; refine (checked_ok _ _ _ _ _ _ _ _ _ _ _ hi hcu HC).mono ?_; rintro e w1 ⟨rfl, l1, n1, rfl⟩)
  exact bodyPost_ret (v := .tuple #[auV id cur amount 0 0 0 1 at_ un 0, .int .i64 0]) (by simp [results, Try.results8, go_sem]) rfl ⟨rfl, (by repeat (first | with_reducible exact Pushed.refl _ | with_reducible assumption | with_reducible refine Pushed.push ?_ _ | with_reducible refine Pushed.alloc ?_ _ | with_reducible refine Pushed.drewN ?_ _ | with_reducible refine Pushed.drew ?_))⟩
theorem new_err {c : Int} (amount at_ un : Int) (hi : id.size ≤ maxLen) (hcu : cur.size ≤ maxLen) (HC : Hid (c = auCheck (identB id.data.toList 16) (curB cur.data.toList) amount 0 0 0 1 at_ un 0)) (h1 : (c != 0) = true) :
    Calls Try.prog 8 #[.string id, .string cur, .int .i64 amount, .int .i64 at_, .int .i64 un] w fun e w' => e = .returned (.tuple #[auV ⟨#[]⟩ ⟨#[]⟩ 0 0 0 0 0 0 0 0, .int .i64 c]) ∧ Pushed w w' := by
  go_enter Try.func8, Try.ntmps8
  go_wp2_with (go_at_call 20; refine (checked_err _ _ _ _ _ _ _ _ _ _ _ hi hcu HC h1).mono ?_; rintro e w1 ⟨rfl, l1, n1, rfl⟩)
  exact bodyPost_ret (v := .tuple #[auV ⟨#[]⟩ ⟨#[]⟩ 0 0 0 0 0 0 0 0, .int .i64 c]) (by simp [results, Try.results8, go_sem]) rfl ⟨rfl, (by repeat (first | with_reducible exact Pushed.refl _ | with_reducible assumption | with_reducible refine Pushed.push ?_ _ | with_reducible refine Pushed.alloc ?_ _ | with_reducible refine Pushed.drewN ?_ _ | with_reducible refine Pushed.drew ?_))⟩
end
abbrev sA : ByteArray := ⟨#[97]⟩
abbrev sEur : ByteArray := ⟨#[69, 85, 82]⟩
theorem aw_new (w : World) : Calls Try.prog 8 #[.string sA, .string sEur, .int .i64 1000, .int .i64 50, .int .i64 90] w fun e w' => e = .returned (.tuple #[auV sA sEur 1000 0 0 0 1 50 90 0, .int .i64 0]) ∧ Pushed w w' :=
  new_ok sA sEur w 1000 50 90 (by decide) (by decide) (by unfold Hid; decide)
theorem aw_clear1 (w : World) : Calls Try.prog 19 #[auV sA sEur 1000 0 0 0 1 50 90 0, .int .i64 400, .bool false] w fun e w' => e = .returned (.tuple #[auV sA sEur 1000 0 400 0 1 50 90 1, .int .i64 400, .int .i64 0, .int .i64 0]) ∧ Pushed w w' :=
  clear_part_a sA sEur 1000 0 0 0 1 50 90 0 w 400 (by decide) (by decide) (by unfold Hid; decide) (by decide) (by decide) (by decide) (by decide) (by decide) (by decide) (by decide) (by decide) (by decide) (by decide)
theorem aw_clear2 (w : World) : Calls Try.prog 19 #[auV sA sEur 1000 0 400 0 1 50 90 1, .int .i64 700, .bool true] w fun e w' => e = .returned (.tuple #[auV sA sEur 1000 0 1000 0 2 50 90 2, .int .i64 600, .int .i64 0, .int .i64 0]) ∧ Pushed w w' :=
  clear_last_b sA sEur 1000 0 400 0 1 50 90 1 w 700 (by decide) (by decide) (by unfold Hid; decide) (by decide) (by decide) (by decide) (by decide) (by decide) (by decide) (by decide) (by decide) (by decide) (by decide)
theorem aw_clear3 (w : World) : Calls Try.prog 19 #[auV sA sEur 1000 0 1000 0 2 50 90 2, .int .i64 1, .bool false] w fun e w' => e = .returned (.tuple #[auV ⟨#[]⟩ ⟨#[]⟩ 0 0 0 0 0 0 0 0, .int .i64 0, .int .i64 0, .int .i64 8]) ∧ Pushed w w' :=
  clear_err sA sEur 1000 0 1000 0 2 50 90 2 w 1 false (by decide) (by decide) (by unfold Hid; decide) (by decide)
theorem aw_open (w : World) : Calls Try.prog 10 #[auV sA sEur 1000 0 400 0 1 50 90 1] w fun e w' => e = .returned (.int .i64 600) ∧ Pushed w w' :=
  open_ok sA sEur 1000 0 400 0 1 50 90 1 w (by decide) (by decide) (by unfold Hid; decide) (auCheck_zero (i := true) (c := true).1 (by decide)).2.2 (by decide +kernel) (by decide +kernel)
theorem awake_any (w : World) : Calls Try.prog 9 #[] w fun e w' => e = .returned (.bool true) ∧ Pushed w w' := by
  go_enter Try.func9, Try.ntmps9
  go_wp2_with fail
  refine (aw_new _).mono ?_
  rintro e w1 ⟨rfl, l1, n1, rfl⟩
  go_wp2_with fail
  refine (aw_clear1 _).mono ?_
  rintro e w1 ⟨rfl, l2, n2, rfl⟩
  go_wp2_with fail
  refine (aw_clear2 _).mono ?_
  rintro e w1 ⟨rfl, l3, n3, rfl⟩
  go_wp2_with fail
  refine (aw_clear3 _).mono ?_
  rintro e w1 ⟨rfl, l4, n4, rfl⟩
  go_wp2_with fail
  refine (aw_open _).mono ?_
  rintro e w1 ⟨rfl, l5, n5, rfl⟩
  go_wp2
  go_ret
  exact ⟨rfl, (by repeat (first | with_reducible exact Pushed.refl _ | with_reducible assumption | with_reducible refine Pushed.push ?_ _ | with_reducible refine Pushed.alloc ?_ _ | with_reducible refine Pushed.drewN ?_ _ | with_reducible refine Pushed.drew ?_))⟩
end Go.Proofs.Ytmigodjkenhedaa

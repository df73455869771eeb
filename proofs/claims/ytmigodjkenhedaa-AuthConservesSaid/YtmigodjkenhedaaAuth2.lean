/-
  CONTRACT of the check of an authorization (the program's): every way through it, and all ways together.
-/
import Derived.Test.YtmigodjkenhedaaAuth
namespace Go.Proofs.Ytmigodjkenhedaa
open Go.RowKit
set_option linter.unusedVariables false
theorem okAmt_bd {n : Int} (h : okAmt n = true) : 0 ≤ n ∧ n ≤ 9999999999999 := by unfold okAmt at h; simp at h; omega
section
variable (id cur : ByteArray) (ap rv cl ex st at_ un pa : Int) (w : World)
set_option maxHeartbeats 1000000 in
theorem check_range (hi : id.size ≤ maxLen) (hc : cur.size ≤ maxLen) (h : identB id.data.toList 16 = true) (h2 : curB cur.data.toList = true) (hr : ap < 1 ∨ 999999999999 < ap ∨ okAmt rv = false ∨ okAmt cl = false ∨ okAmt ex = false) :
    Calls Try.prog 12 #[auV id cur ap rv cl ex st at_ un pa] w fun e w' => e = .returned (.int .i64 4) ∧ Pushed w w' := by
  by_cases a1 : ap < 1
  · go_enter Try.func12, Try.ntmps12
    go_wp2_with (first | (go_at_call 25; refine (ident_any _ hi _ _).mono ?_; rintro e w1 ⟨rfl, rfl⟩) | (go_at_call 26; refine (currency_any _ hc _).mono ?_; rintro e w1 ⟨rfl, rfl⟩))
    go_ret
    exact ⟨rfl, (by repeat (first | exact Pushed.refl _ | refine Pushed.alloc ?_ _ | refine Pushed.drewN ?_ _ | refine Pushed.drew ?_ | refine Pushed.push ?_ _))⟩
  by_cases a2 : 999999999999 < ap
  · go_enter Try.func12, Try.ntmps12
    go_wp2_with (first | (go_at_call 25; refine (ident_any _ hi _ _).mono ?_; rintro e w1 ⟨rfl, rfl⟩) | (go_at_call 26; refine (currency_any _ hc _).mono ?_; rintro e w1 ⟨rfl, rfl⟩))
    go_ret
    exact ⟨rfl, (by repeat (first | exact Pushed.refl _ | refine Pushed.alloc ?_ _ | refine Pushed.drewN ?_ _ | refine Pushed.drew ?_ | refine Pushed.push ?_ _))⟩
  cases q1 : okAmt rv
  · go_enter Try.func12, Try.ntmps12
    go_wp2_with (first | (go_at_call 25; refine (ident_any _ hi _ _).mono ?_; rintro e w1 ⟨rfl, rfl⟩) | (go_at_call 26; refine (currency_any _ hc _).mono ?_; rintro e w1 ⟨rfl, rfl⟩) | (go_at_call 27; refine (possible_any _ _).mono ?_; rintro e w1 ⟨rfl, rfl⟩))
    go_ret
    exact ⟨rfl, (by repeat (first | exact Pushed.refl _ | refine Pushed.alloc ?_ _ | refine Pushed.drewN ?_ _ | refine Pushed.drew ?_ | refine Pushed.push ?_ _))⟩
  cases q2 : okAmt cl
  · go_enter Try.func12, Try.ntmps12
    go_wp2_with (first | (go_at_call 25; refine (ident_any _ hi _ _).mono ?_; rintro e w1 ⟨rfl, rfl⟩) | (go_at_call 26; refine (currency_any _ hc _).mono ?_; rintro e w1 ⟨rfl, rfl⟩) | (go_at_call 27; refine (possible_any _ _).mono ?_; rintro e w1 ⟨rfl, rfl⟩))
    go_ret
    exact ⟨rfl, (by repeat (first | exact Pushed.refl _ | refine Pushed.alloc ?_ _ | refine Pushed.drewN ?_ _ | refine Pushed.drew ?_ | refine Pushed.push ?_ _))⟩
  cases q3 : okAmt ex
  · clear hr
    go_enter Try.func12, Try.ntmps12
    go_wp2_with (first | (go_at_call 25; refine (ident_any _ hi _ _).mono ?_; rintro e w1 ⟨rfl, rfl⟩) | (go_at_call 26; refine (currency_any _ hc _).mono ?_; rintro e w1 ⟨rfl, rfl⟩) | (go_at_call 27; refine (possible_any _ _).mono ?_; rintro e w1 ⟨rfl, rfl⟩))
    all_goals first | (go_ret; exact ⟨rfl, (by repeat (first | exact Pushed.refl _ | refine Pushed.alloc ?_ _ | refine Pushed.drewN ?_ _ | refine Pushed.drew ?_ | refine Pushed.push ?_ _))⟩) | (exfalso; simp at *; omega)
  · simp [q1, q2, q3] at hr; omega
set_option maxHeartbeats 1000000 in
theorem check_bal (hi : id.size ≤ maxLen) (hc : cur.size ≤ maxLen) (h : identB id.data.toList 16 = true) (h2 : curB cur.data.toList = true) (a1 : 1 ≤ ap) (a2 : ap ≤ 999999999999) (q1 : okAmt rv = true) (q2 : okAmt cl = true) (q3 : okAmt ex = true) (hL : ap - rv - cl - ex < 0) :
    Calls Try.prog 12 #[auV id cur ap rv cl ex st at_ un pa] w fun e w' => e = .returned (.int .i64 26) ∧ Pushed w w' := by
  have ba : 0 ≤ ap ∧ ap ≤ 9999999999999 := by omega
  have br := okAmt_bd q1
  have bc := okAmt_bd q2
  have be := okAmt_bd q3
  have d1 : decide (ap < 1) = false := decide_eq_false (by omega)
  have d2 : decide (999999999999 < ap) = false := decide_eq_false (by omega)
  go_enter Try.func12, Try.ntmps12
  go_wp2_with (first | (go_at_call 25; refine (ident_any _ hi _ _).mono ?_; rintro e w1 ⟨rfl, rfl⟩) | (go_at_call 26; refine (currency_any _ hc _).mono ?_; rintro e w1 ⟨rfl, rfl⟩) | (go_at_call 27; refine (possible_any _ _).mono ?_; rintro e w1 ⟨rfl, rfl⟩) | (go_at_call 21; refine (left_any _ _ _ _ _ _ _ _ _ _ _ ba br bc be).mono ?_; rintro e w1 ⟨rfl, rfl⟩) | (go_at_call 28; refine (settled_any _ _ _ _ _ _ _ _ _ _ _ ba br bc be).mono ?_; rintro e w1 ⟨rfl, l1, n1, rfl⟩))
  all_goals first | (go_ret; exact ⟨rfl, (by repeat (first | exact Pushed.refl _ | refine Pushed.alloc ?_ _ | refine Pushed.drewN ?_ _ | refine Pushed.drew ?_ | refine Pushed.push ?_ _))⟩) | (exfalso; simp at *; omega)
set_option maxHeartbeats 1000000 in
theorem check_time (hi : id.size ≤ maxLen) (hc : cur.size ≤ maxLen) (h : identB id.data.toList 16 = true) (h2 : curB cur.data.toList = true) (a1 : 1 ≤ ap) (a2 : ap ≤ 999999999999) (q1 : okAmt rv = true) (q2 : okAmt cl = true) (q3 : okAmt ex = true) (hL : 0 ≤ ap - rv - cl - ex) (ht : at_ < 0 ∨ 1099511627776 < at_ ∨ un ≤ at_ ∨ 1099511627776 < un) :
    Calls Try.prog 12 #[auV id cur ap rv cl ex st at_ un pa] w fun e w' => e = .returned (.int .i64 14) ∧ Pushed w w' := by
  have ba : 0 ≤ ap ∧ ap ≤ 9999999999999 := by omega
  have br := okAmt_bd q1
  have bc := okAmt_bd q2
  have be := okAmt_bd q3
  have d1 : decide (ap < 1) = false := decide_eq_false (by omega)
  have d2 : decide (999999999999 < ap) = false := decide_eq_false (by omega)
  by_cases t1 : at_ < 0
  · clear ht
    go_enter Try.func12, Try.ntmps12
    go_wp2_with (first | (go_at_call 25; refine (ident_any _ hi _ _).mono ?_; rintro e w1 ⟨rfl, rfl⟩) | (go_at_call 26; refine (currency_any _ hc _).mono ?_; rintro e w1 ⟨rfl, rfl⟩) | (go_at_call 27; refine (possible_any _ _).mono ?_; rintro e w1 ⟨rfl, rfl⟩) | (go_at_call 21; refine (left_any _ _ _ _ _ _ _ _ _ _ _ ba br bc be).mono ?_; rintro e w1 ⟨rfl, rfl⟩) | (go_at_call 28; refine (settled_any _ _ _ _ _ _ _ _ _ _ _ ba br bc be).mono ?_; rintro e w1 ⟨rfl, l1, n1, rfl⟩))
    go_ret
    exact ⟨rfl, (by repeat (first | exact Pushed.refl _ | refine Pushed.alloc ?_ _ | refine Pushed.drewN ?_ _ | refine Pushed.drew ?_ | refine Pushed.push ?_ _))⟩
  by_cases t2 : 1099511627776 < at_
  · clear ht
    go_enter Try.func12, Try.ntmps12
    go_wp2_with (first | (go_at_call 25; refine (ident_any _ hi _ _).mono ?_; rintro e w1 ⟨rfl, rfl⟩) | (go_at_call 26; refine (currency_any _ hc _).mono ?_; rintro e w1 ⟨rfl, rfl⟩) | (go_at_call 27; refine (possible_any _ _).mono ?_; rintro e w1 ⟨rfl, rfl⟩) | (go_at_call 21; refine (left_any _ _ _ _ _ _ _ _ _ _ _ ba br bc be).mono ?_; rintro e w1 ⟨rfl, rfl⟩) | (go_at_call 28; refine (settled_any _ _ _ _ _ _ _ _ _ _ _ ba br bc be).mono ?_; rintro e w1 ⟨rfl, l1, n1, rfl⟩))
    go_ret
    exact ⟨rfl, (by repeat (first | exact Pushed.refl _ | refine Pushed.alloc ?_ _ | refine Pushed.drewN ?_ _ | refine Pushed.drew ?_ | refine Pushed.push ?_ _))⟩
  by_cases t3 : un ≤ at_
  · clear ht
    go_enter Try.func12, Try.ntmps12
    go_wp2_with (first | (go_at_call 25; refine (ident_any _ hi _ _).mono ?_; rintro e w1 ⟨rfl, rfl⟩) | (go_at_call 26; refine (currency_any _ hc _).mono ?_; rintro e w1 ⟨rfl, rfl⟩) | (go_at_call 27; refine (possible_any _ _).mono ?_; rintro e w1 ⟨rfl, rfl⟩) | (go_at_call 21; refine (left_any _ _ _ _ _ _ _ _ _ _ _ ba br bc be).mono ?_; rintro e w1 ⟨rfl, rfl⟩) | (go_at_call 28; refine (settled_any _ _ _ _ _ _ _ _ _ _ _ ba br bc be).mono ?_; rintro e w1 ⟨rfl, l1, n1, rfl⟩))
    go_ret
    exact ⟨rfl, (by repeat (first | exact Pushed.refl _ | refine Pushed.alloc ?_ _ | refine Pushed.drewN ?_ _ | refine Pushed.drew ?_ | refine Pushed.push ?_ _))⟩
  · have t4 : 1099511627776 < un := by omega
    clear ht
    go_enter Try.func12, Try.ntmps12
    go_wp2_with (first | (go_at_call 25; refine (ident_any _ hi _ _).mono ?_; rintro e w1 ⟨rfl, rfl⟩) | (go_at_call 26; refine (currency_any _ hc _).mono ?_; rintro e w1 ⟨rfl, rfl⟩) | (go_at_call 27; refine (possible_any _ _).mono ?_; rintro e w1 ⟨rfl, rfl⟩) | (go_at_call 21; refine (left_any _ _ _ _ _ _ _ _ _ _ _ ba br bc be).mono ?_; rintro e w1 ⟨rfl, rfl⟩) | (go_at_call 28; refine (settled_any _ _ _ _ _ _ _ _ _ _ _ ba br bc be).mono ?_; rintro e w1 ⟨rfl, l1, n1, rfl⟩))
    all_goals first | (go_ret; exact ⟨rfl, (by repeat (first | exact Pushed.refl _ | refine Pushed.alloc ?_ _ | refine Pushed.drewN ?_ _ | refine Pushed.drew ?_ | refine Pushed.push ?_ _))⟩) | (exfalso; simp at *; omega)
end
end Go.Proofs.Ytmigodjkenhedaa

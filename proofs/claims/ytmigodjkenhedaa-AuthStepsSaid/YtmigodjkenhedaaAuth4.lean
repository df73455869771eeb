/-
  CONTRACT of the specification's check of an authorization: the same plain function of the fields.
-/
import Derived.Test.YtmigodjkenhedaaAuth
import Derived.Deep.RegionHeld3
import Derived.Deep.RegionWith
namespace Go.Proofs.Ytmigodjkenhedaa
open Go.RowKit
set_option linter.unusedVariables false
section
variable (id cur : ByteArray) (ap rv cl ex st at_ un pa : Int) (w : World)
theorem refstate_is {s' : Int} (ha : 0 ≤ ap ∧ ap ≤ 9999999999999) (hr : 0 ≤ rv ∧ rv ≤ 9999999999999) (hc : 0 ≤ cl ∧ cl ≤ 9999999999999) (he : 0 ≤ ex ∧ ex ≤ 9999999999999) (hs : Hid (s' = auState ap rv cl ex)) :
    Calls Try.prog 32 #[auV id cur ap rv cl ex st at_ un pa] w fun e w' => e = .returned (.int .i64 s') ∧ Pushed w w' := by
  have h := refstate_any id cur ap rv cl ex st at_ un pa w ha hr hc he
  rw [← hs.out] at h
  exact h
theorem rcheck_name (hi : id.size ≤ maxLen) (h : identB id.data.toList 16 = false) :
    Calls Try.prog 13 #[auV id cur ap rv cl ex st at_ un pa] w fun e w' => e = .returned (.int .i64 5) ∧ Pushed w w' := by
  go_enter Try.func13, Try.ntmps13
  go_wp2_with (first | (go_at_call 29; refine (refid_any _ hi _).mono ?_; rintro e w1 ⟨rfl, rfl⟩))
  go_ret
  exact ⟨rfl, (by repeat (first | with_reducible exact Pushed.refl _ | with_reducible assumption | with_reducible refine Pushed.push ?_ _ | with_reducible refine Pushed.alloc ?_ _ | with_reducible refine Pushed.drewN ?_ _ | with_reducible refine Pushed.drew ?_))⟩
theorem rcheck_cur (hi : id.size ≤ maxLen) (hc : cur.size ≤ maxLen) (h : identB id.data.toList 16 = true) (h2 : curB cur.data.toList = false) :
    Calls Try.prog 13 #[auV id cur ap rv cl ex st at_ un pa] w fun e w' => e = .returned (.int .i64 11) ∧ Pushed w w' := by
  go_enter Try.func13, Try.ntmps13
  go_wp2_with (first | (go_at_call 29; refine (refid_any _ hi _).mono ?_; rintro e w1 ⟨rfl, rfl⟩) | (go_at_call 30; refine (refcur_any _ hc _).mono ?_; rintro e w1 ⟨rfl, rfl⟩))
  go_ret
  exact ⟨rfl, (by repeat (first | with_reducible exact Pushed.refl _ | with_reducible assumption | with_reducible refine Pushed.push ?_ _ | with_reducible refine Pushed.alloc ?_ _ | with_reducible refine Pushed.drewN ?_ _ | with_reducible refine Pushed.drew ?_))⟩
set_option maxHeartbeats 1000000 in
theorem rcheck_range (hi : id.size ≤ maxLen) (hc : cur.size ≤ maxLen) (h : identB id.data.toList 16 = true) (h2 : curB cur.data.toList = true) (hr : inB ap 1 999999999999 = false ∨ inB rv 0 999999999999 = false ∨ inB cl 0 999999999999 = false ∨ inB ex 0 999999999999 = false) :
    Calls Try.prog 13 #[auV id cur ap rv cl ex st at_ un pa] w fun e w' => e = .returned (.int .i64 4) ∧ Pushed w w' := by
  cases q0 : inB ap 1 999999999999
  · clear hr
    go_enter Try.func13, Try.ntmps13
    go_wp2_with (first | (go_at_call 29; refine (refid_any _ hi _).mono ?_; rintro e w1 ⟨rfl, rfl⟩) | (go_at_call 30; refine (refcur_any _ hc _).mono ?_; rintro e w1 ⟨rfl, rfl⟩) | (go_at_call 31; refine (within_any _ _ _ _).mono ?_; rintro e w1 ⟨rfl, rfl⟩))
    go_ret
    exact ⟨rfl, (by repeat (first | with_reducible exact Pushed.refl _ | with_reducible assumption | with_reducible refine Pushed.push ?_ _ | with_reducible refine Pushed.alloc ?_ _ | with_reducible refine Pushed.drewN ?_ _ | with_reducible refine Pushed.drew ?_))⟩
  cases q1 : inB rv 0 999999999999
  · clear hr
    go_enter Try.func13, Try.ntmps13
    go_wp2_with (first | (go_at_call 29; refine (refid_any _ hi _).mono ?_; rintro e w1 ⟨rfl, rfl⟩) | (go_at_call 30; refine (refcur_any _ hc _).mono ?_; rintro e w1 ⟨rfl, rfl⟩) | (go_at_call 31; refine (within_any _ _ _ _).mono ?_; rintro e w1 ⟨rfl, rfl⟩))
    go_ret
    exact ⟨rfl, (by repeat (first | with_reducible exact Pushed.refl _ | with_reducible assumption | with_reducible refine Pushed.push ?_ _ | with_reducible refine Pushed.alloc ?_ _ | with_reducible refine Pushed.drewN ?_ _ | with_reducible refine Pushed.drew ?_))⟩
  cases q2 : inB cl 0 999999999999
  · clear hr
    go_enter Try.func13, Try.ntmps13
    go_wp2_with (first | (go_at_call 29; refine (refid_any _ hi _).mono ?_; rintro e w1 ⟨rfl, rfl⟩) | (go_at_call 30; refine (refcur_any _ hc _).mono ?_; rintro e w1 ⟨rfl, rfl⟩) | (go_at_call 31; refine (within_any _ _ _ _).mono ?_; rintro e w1 ⟨rfl, rfl⟩))
    go_ret
    exact ⟨rfl, (by repeat (first | with_reducible exact Pushed.refl _ | with_reducible assumption | with_reducible refine Pushed.push ?_ _ | with_reducible refine Pushed.alloc ?_ _ | with_reducible refine Pushed.drewN ?_ _ | with_reducible refine Pushed.drew ?_))⟩
  cases q3 : inB ex 0 999999999999
  · clear hr
    go_enter Try.func13, Try.ntmps13
    go_wp2_with (first | (go_at_call 29; refine (refid_any _ hi _).mono ?_; rintro e w1 ⟨rfl, rfl⟩) | (go_at_call 30; refine (refcur_any _ hc _).mono ?_; rintro e w1 ⟨rfl, rfl⟩) | (go_at_call 31; refine (within_any _ _ _ _).mono ?_; rintro e w1 ⟨rfl, rfl⟩))
    go_ret
    exact ⟨rfl, (by repeat (first | with_reducible exact Pushed.refl _ | with_reducible assumption | with_reducible refine Pushed.push ?_ _ | with_reducible refine Pushed.alloc ?_ _ | with_reducible refine Pushed.drewN ?_ _ | with_reducible refine Pushed.drew ?_))⟩
  · simp [q0, q1, q2, q3] at hr
set_option maxHeartbeats 1000000 in
theorem rcheck_bal (hi : id.size ≤ maxLen) (hc : cur.size ≤ maxLen) (h : identB id.data.toList 16 = true) (h2 : curB cur.data.toList = true) (q0 : inB ap 1 999999999999 = true) (q1 : inB rv 0 999999999999 = true) (q2 : inB cl 0 999999999999 = true) (q3 : inB ex 0 999999999999 = true) (hL : ap < rv + cl + ex) :
    Calls Try.prog 13 #[auV id cur ap rv cl ex st at_ un pa] w fun e w' => e = .returned (.int .i64 26) ∧ Pushed w w' := by
  have ba : 0 ≤ ap ∧ ap ≤ 9999999999999 := by unfold inB at q0; simp at q0; omega
  have br : 0 ≤ rv ∧ rv ≤ 9999999999999 := by unfold inB at q1; simp at q1; omega
  have bc : 0 ≤ cl ∧ cl ≤ 9999999999999 := by unfold inB at q2; simp at q2; omega
  have be : 0 ≤ ex ∧ ex ≤ 9999999999999 := by unfold inB at q3; simp at q3; omega
  go_enter Try.func13, Try.ntmps13
  go_wp2_with (first | (go_at_call 29; refine (refid_any _ hi _).mono ?_; rintro e w1 ⟨rfl, rfl⟩) | (go_at_call 30; refine (refcur_any _ hc _).mono ?_; rintro e w1 ⟨rfl, rfl⟩) | (go_at_call 31; refine (within_any _ _ _ _).mono ?_; rintro e w1 ⟨rfl, rfl⟩))
  all_goals first | (go_ret; exact ⟨rfl, (by repeat (first | with_reducible exact Pushed.refl _ | with_reducible assumption | with_reducible refine Pushed.push ?_ _ | with_reducible refine Pushed.alloc ?_ _ | with_reducible refine Pushed.drewN ?_ _ | with_reducible refine Pushed.drew ?_))⟩) | (exfalso; simp at *; omega)
set_option maxHeartbeats 2000000 in
theorem rcheck_time (hi : id.size ≤ maxLen) (hc : cur.size ≤ maxLen) (h : identB id.data.toList 16 = true) (h2 : curB cur.data.toList = true) (q0 : inB ap 1 999999999999 = true) (q1 : inB rv 0 999999999999 = true) (q2 : inB cl 0 999999999999 = true) (q3 : inB ex 0 999999999999 = true) (hL : rv + cl + ex ≤ ap) (ht : at_ < 0 ∨ 1099511627776 < at_ ∨ un ≤ at_ ∨ 1099511627776 < un) :
    Calls Try.prog 13 #[auV id cur ap rv cl ex st at_ un pa] w fun e w' => e = .returned (.int .i64 14) ∧ Pushed w w' := by
  have ba : 0 ≤ ap ∧ ap ≤ 9999999999999 := by unfold inB at q0; simp at q0; omega
  have br : 0 ≤ rv ∧ rv ≤ 9999999999999 := by unfold inB at q1; simp at q1; omega
  have bc : 0 ≤ cl ∧ cl ≤ 9999999999999 := by unfold inB at q2; simp at q2; omega
  have be : 0 ≤ ex ∧ ex ≤ 9999999999999 := by unfold inB at q3; simp at q3; omega
  have d0 : decide (ap < rv + cl + ex) = false := decide_eq_false (by omega)
  by_cases t1 : at_ < 0
  · clear ht
    go_enter Try.func13, Try.ntmps13
    go_wp2_with (first | (go_at_call 29; refine (refid_any _ hi _).mono ?_; rintro e w1 ⟨rfl, rfl⟩) | (go_at_call 30; refine (refcur_any _ hc _).mono ?_; rintro e w1 ⟨rfl, rfl⟩) | (go_at_call 31; refine (within_any _ _ _ _).mono ?_; rintro e w1 ⟨rfl, rfl⟩))
    go_ret
    exact ⟨rfl, (by repeat (first | with_reducible exact Pushed.refl _ | with_reducible assumption | with_reducible refine Pushed.push ?_ _ | with_reducible refine Pushed.alloc ?_ _ | with_reducible refine Pushed.drewN ?_ _ | with_reducible refine Pushed.drew ?_))⟩
  by_cases t2 : 1099511627776 < at_
  · clear ht
    go_enter Try.func13, Try.ntmps13
    go_wp2_with (first | (go_at_call 29; refine (refid_any _ hi _).mono ?_; rintro e w1 ⟨rfl, rfl⟩) | (go_at_call 30; refine (refcur_any _ hc _).mono ?_; rintro e w1 ⟨rfl, rfl⟩) | (go_at_call 31; refine (within_any _ _ _ _).mono ?_; rintro e w1 ⟨rfl, rfl⟩))
    go_ret
    exact ⟨rfl, (by repeat (first | with_reducible exact Pushed.refl _ | with_reducible assumption | with_reducible refine Pushed.push ?_ _ | with_reducible refine Pushed.alloc ?_ _ | with_reducible refine Pushed.drewN ?_ _ | with_reducible refine Pushed.drew ?_))⟩
  by_cases t3 : un ≤ at_
  · clear ht
    go_enter Try.func13, Try.ntmps13
    go_wp2_with (first | (go_at_call 29; refine (refid_any _ hi _).mono ?_; rintro e w1 ⟨rfl, rfl⟩) | (go_at_call 30; refine (refcur_any _ hc _).mono ?_; rintro e w1 ⟨rfl, rfl⟩) | (go_at_call 31; refine (within_any _ _ _ _).mono ?_; rintro e w1 ⟨rfl, rfl⟩))
    go_ret
    exact ⟨rfl, (by repeat (first | with_reducible exact Pushed.refl _ | with_reducible assumption | with_reducible refine Pushed.push ?_ _ | with_reducible refine Pushed.alloc ?_ _ | with_reducible refine Pushed.drewN ?_ _ | with_reducible refine Pushed.drew ?_))⟩
  have t4 : 1099511627776 < un := by omega
  clear ht
  go_enter Try.func13, Try.ntmps13
  go_wp2_with (first | (go_at_call 29; refine (refid_any _ hi _).mono ?_; rintro e w1 ⟨rfl, rfl⟩) | (go_at_call 30; refine (refcur_any _ hc _).mono ?_; rintro e w1 ⟨rfl, rfl⟩) | (go_at_call 31; refine (within_any _ _ _ _).mono ?_; rintro e w1 ⟨rfl, rfl⟩))
  all_goals first | (go_ret; exact ⟨rfl, (by repeat (first | with_reducible exact Pushed.refl _ | with_reducible assumption | with_reducible refine Pushed.push ?_ _ | with_reducible refine Pushed.alloc ?_ _ | with_reducible refine Pushed.drewN ?_ _ | with_reducible refine Pushed.drew ?_))⟩) | (exfalso; simp at *; omega)
set_option maxHeartbeats 2000000 in
theorem rcheck_parts (hi : id.size ≤ maxLen) (hc : cur.size ≤ maxLen) (h : identB id.data.toList 16 = true) (h2 : curB cur.data.toList = true) (q0 : inB ap 1 999999999999 = true) (q1 : inB rv 0 999999999999 = true) (q2 : inB cl 0 999999999999 = true) (q3 : inB ex 0 999999999999 = true) (hL : rv + cl + ex ≤ ap) (t1 : 0 ≤ at_) (t2 : at_ ≤ 1099511627776) (t3 : at_ < un) (t4 : un ≤ 1099511627776) (hp : pa < 0 ∨ 8 < pa ∨ cl < pa ∨ (pa = 0 ∧ cl ≠ 0) ∨ (pa ≠ 0 ∧ cl = 0)) :
    Calls Try.prog 13 #[auV id cur ap rv cl ex st at_ un pa] w fun e w' => e = .returned (.int .i64 4) ∧ Pushed w w' := by
  have ba : 0 ≤ ap ∧ ap ≤ 9999999999999 := by unfold inB at q0; simp at q0; omega
  have br : 0 ≤ rv ∧ rv ≤ 9999999999999 := by unfold inB at q1; simp at q1; omega
  have bc : 0 ≤ cl ∧ cl ≤ 9999999999999 := by unfold inB at q2; simp at q2; omega
  have be : 0 ≤ ex ∧ ex ≤ 9999999999999 := by unfold inB at q3; simp at q3; omega
  have d0 : decide (ap < rv + cl + ex) = false := decide_eq_false (by omega)
  have d3 : decide (at_ < 0) = false := decide_eq_false (by omega)
  have d4 : decide (1099511627776 < at_) = false := decide_eq_false (by omega)
  have d5 : decide (un ≤ at_) = false := decide_eq_false (by omega)
  have d6 : decide (1099511627776 < un) = false := decide_eq_false (by omega)
  by_cases p1 : pa < 0
  · clear hp
    go_enter Try.func13, Try.ntmps13
    go_wp2_with (first | (go_at_call 29; refine (refid_any _ hi _).mono ?_; rintro e w1 ⟨rfl, rfl⟩) | (go_at_call 30; refine (refcur_any _ hc _).mono ?_; rintro e w1 ⟨rfl, rfl⟩) | (go_at_call 31; refine (within_any _ _ _ _).mono ?_; rintro e w1 ⟨rfl, rfl⟩))
    go_ret
    exact ⟨rfl, (by repeat (first | with_reducible exact Pushed.refl _ | with_reducible assumption | with_reducible refine Pushed.push ?_ _ | with_reducible refine Pushed.alloc ?_ _ | with_reducible refine Pushed.drewN ?_ _ | with_reducible refine Pushed.drew ?_))⟩
  by_cases p2 : 8 < pa
  · clear hp
    go_enter Try.func13, Try.ntmps13
    go_wp2_with (first | (go_at_call 29; refine (refid_any _ hi _).mono ?_; rintro e w1 ⟨rfl, rfl⟩) | (go_at_call 30; refine (refcur_any _ hc _).mono ?_; rintro e w1 ⟨rfl, rfl⟩) | (go_at_call 31; refine (within_any _ _ _ _).mono ?_; rintro e w1 ⟨rfl, rfl⟩))
    go_ret
    exact ⟨rfl, (by repeat (first | with_reducible exact Pushed.refl _ | with_reducible assumption | with_reducible refine Pushed.push ?_ _ | with_reducible refine Pushed.alloc ?_ _ | with_reducible refine Pushed.drewN ?_ _ | with_reducible refine Pushed.drew ?_))⟩
  by_cases p3 : cl < pa
  · clear hp
    go_enter Try.func13, Try.ntmps13
    go_wp2_with (first | (go_at_call 29; refine (refid_any _ hi _).mono ?_; rintro e w1 ⟨rfl, rfl⟩) | (go_at_call 30; refine (refcur_any _ hc _).mono ?_; rintro e w1 ⟨rfl, rfl⟩) | (go_at_call 31; refine (within_any _ _ _ _).mono ?_; rintro e w1 ⟨rfl, rfl⟩))
    go_ret
    exact ⟨rfl, (by repeat (first | with_reducible exact Pushed.refl _ | with_reducible assumption | with_reducible refine Pushed.push ?_ _ | with_reducible refine Pushed.alloc ?_ _ | with_reducible refine Pushed.drewN ?_ _ | with_reducible refine Pushed.drew ?_))⟩
  obtain ⟨z, z1, z2⟩ : ∃ z : Bool, (pa == 0) = z ∧ (cl == 0) = !z := by
    rcases (by omega : (pa = 0 ∧ cl ≠ 0) ∨ (pa ≠ 0 ∧ cl = 0)) with ⟨y1, y2⟩ | ⟨y1, y2⟩
    · exact ⟨true, by simp [y1], by simp [y2]⟩
    · exact ⟨false, by simp [y1], by simp [y2]⟩
  have d7 : decide (pa < 0) = false := decide_eq_false (by omega)
  have d8 : decide (8 < pa) = false := decide_eq_false (by omega)
  have d9 : decide (cl < pa) = false := decide_eq_false (by omega)
  clear hp
  go_enter Try.func13, Try.ntmps13
  go_wp2_with (first | (go_at_call 29; refine (refid_any _ hi _).mono ?_; rintro e w1 ⟨rfl, rfl⟩) | (go_at_call 30; refine (refcur_any _ hc _).mono ?_; rintro e w1 ⟨rfl, rfl⟩) | (go_at_call 31; refine (within_any _ _ _ _).mono ?_; rintro e w1 ⟨rfl, rfl⟩))
  all_goals first | (go_ret; exact ⟨rfl, (by repeat (first | with_reducible exact Pushed.refl _ | with_reducible assumption | with_reducible refine Pushed.push ?_ _ | with_reducible refine Pushed.alloc ?_ _ | with_reducible refine Pushed.drewN ?_ _ | with_reducible refine Pushed.drew ?_))⟩) | (exfalso; simp at *; omega)
attribute [local go_sem] undef
set_option maxHeartbeats 2000000 in
theorem rcheck_st (hi : id.size ≤ maxLen) (hc : cur.size ≤ maxLen) (h : identB id.data.toList 16 = true) (h2 : curB cur.data.toList = true) (q0 : inB ap 1 999999999999 = true) (q1 : inB rv 0 999999999999 = true) (q2 : inB cl 0 999999999999 = true) (q3 : inB ex 0 999999999999 = true) (hL : rv + cl + ex ≤ ap) (t1 : 0 ≤ at_) (t2 : at_ ≤ 1099511627776) (t3 : at_ < un) (t4 : un ≤ 1099511627776) (p1 : 0 ≤ pa) (p2 : pa ≤ 8) (p3 : pa ≤ cl) (p4 : (pa = 0 ∧ cl = 0) ∨ (pa ≠ 0 ∧ cl ≠ 0)) (s' : Int) (HS : Hid (s' = auState ap rv cl ex)) (hs1 : (st != s') = true) (hs : (st == s') = false) :
    Calls Try.prog 13 #[auV id cur ap rv cl ex st at_ un pa] w fun e w' => e = .returned (.int .i64 8) ∧ Pushed w w' := by
  have ba : 0 ≤ ap ∧ ap ≤ 9999999999999 := by unfold inB at q0; simp at q0; omega
  have br : 0 ≤ rv ∧ rv ≤ 9999999999999 := by unfold inB at q1; simp at q1; omega
  have bc : 0 ≤ cl ∧ cl ≤ 9999999999999 := by unfold inB at q2; simp at q2; omega
  have be : 0 ≤ ex ∧ ex ≤ 9999999999999 := by unfold inB at q3; simp at q3; omega
  have d0 : decide (ap < rv + cl + ex) = false := decide_eq_false (by omega)
  have d3 : decide (at_ < 0) = false := decide_eq_false (by omega)
  have d4 : decide (1099511627776 < at_) = false := decide_eq_false (by omega)
  have d5 : decide (un ≤ at_) = false := decide_eq_false (by omega)
  have d6 : decide (1099511627776 < un) = false := decide_eq_false (by omega)
  obtain ⟨z, z1, z2⟩ : ∃ z : Bool, (pa == 0) = z ∧ (cl == 0) = z := by
    rcases p4 with ⟨y1, y2⟩ | ⟨y1, y2⟩
    · exact ⟨true, by simp [y1], by simp [y2]⟩
    · exact ⟨false, by simp [y1], by simp [y2]⟩
  clear p4
  have d7 : decide (pa < 0) = false := decide_eq_false (by omega)
  have d8 : decide (8 < pa) = false := decide_eq_false (by omega)
  have d9 : decide (cl < pa) = false := decide_eq_false (by omega)
  go_enter Try.func13, Try.ntmps13
  go_wp2_with (first | (go_at_call 29; refine (refid_any _ hi _).mono ?_; rintro e w1 ⟨rfl, rfl⟩) | (go_at_call 30; refine (refcur_any _ hc _).mono ?_; rintro e w1 ⟨rfl, rfl⟩) | (go_at_call 31; refine (within_any _ _ _ _).mono ?_; rintro e w1 ⟨rfl, rfl⟩))
  all_goals first | (exfalso; simp at *; omega) | skip
  first | (go_region_with (first | (go_at_call 32; refine (refstate_is _ _ _ _ _ _ _ _ _ _ _ ba br bc be HS).mono ?_; rintro e w1 ⟨rfl, l1, n1, rfl⟩))) | (fail)
  all_goals go_wp2
  all_goals go_ret
  all_goals exact ⟨rfl, (by repeat (first | with_reducible exact Pushed.refl _ | with_reducible assumption | with_reducible refine Pushed.push ?_ _ | with_reducible refine Pushed.alloc ?_ _ | with_reducible refine Pushed.drewN ?_ _ | with_reducible refine Pushed.drew ?_))⟩
set_option maxHeartbeats 2000000 in
theorem rcheck_ex (hi : id.size ≤ maxLen) (hc : cur.size ≤ maxLen) (h : identB id.data.toList 16 = true) (h2 : curB cur.data.toList = true) (q0 : inB ap 1 999999999999 = true) (q1 : inB rv 0 999999999999 = true) (q2 : inB cl 0 999999999999 = true) (q3 : inB ex 0 999999999999 = true) (hL : rv + cl + ex ≤ ap) (t1 : 0 ≤ at_) (t2 : at_ ≤ 1099511627776) (t3 : at_ < un) (t4 : un ≤ 1099511627776) (p1 : 0 ≤ pa) (p2 : pa ≤ 8) (p3 : pa ≤ cl) (p4 : (pa = 0 ∧ cl = 0) ∨ (pa ≠ 0 ∧ cl ≠ 0)) (s' : Int) (HS : Hid (s' = auState ap rv cl ex)) (hs1 : ((1 : Int) != s') = false) (hx : (ex != 0) = true) :
    Calls Try.prog 13 #[auV id cur ap rv cl ex 1 at_ un pa] w fun e w' => e = .returned (.int .i64 8) ∧ Pushed w w' := by
  have ba : 0 ≤ ap ∧ ap ≤ 9999999999999 := by unfold inB at q0; simp at q0; omega
  have br : 0 ≤ rv ∧ rv ≤ 9999999999999 := by unfold inB at q1; simp at q1; omega
  have bc : 0 ≤ cl ∧ cl ≤ 9999999999999 := by unfold inB at q2; simp at q2; omega
  have be : 0 ≤ ex ∧ ex ≤ 9999999999999 := by unfold inB at q3; simp at q3; omega
  have d0 : decide (ap < rv + cl + ex) = false := decide_eq_false (by omega)
  have d3 : decide (at_ < 0) = false := decide_eq_false (by omega)
  have d4 : decide (1099511627776 < at_) = false := decide_eq_false (by omega)
  have d5 : decide (un ≤ at_) = false := decide_eq_false (by omega)
  have d6 : decide (1099511627776 < un) = false := decide_eq_false (by omega)
  obtain ⟨z, z1, z2⟩ : ∃ z : Bool, (pa == 0) = z ∧ (cl == 0) = z := by
    rcases p4 with ⟨y1, y2⟩ | ⟨y1, y2⟩
    · exact ⟨true, by simp [y1], by simp [y2]⟩
    · exact ⟨false, by simp [y1], by simp [y2]⟩
  clear p4
  have d7 : decide (pa < 0) = false := decide_eq_false (by omega)
  have d8 : decide (8 < pa) = false := decide_eq_false (by omega)
  have d9 : decide (cl < pa) = false := decide_eq_false (by omega)
  go_enter Try.func13, Try.ntmps13
  go_wp2_with (first | (go_at_call 29; refine (refid_any _ hi _).mono ?_; rintro e w1 ⟨rfl, rfl⟩) | (go_at_call 30; refine (refcur_any _ hc _).mono ?_; rintro e w1 ⟨rfl, rfl⟩) | (go_at_call 31; refine (within_any _ _ _ _).mono ?_; rintro e w1 ⟨rfl, rfl⟩))
  all_goals first | (exfalso; simp at *; omega) | skip
  first | (go_region_with (first | (go_at_call 32; refine (refstate_is _ _ _ _ _ _ _ _ _ _ _ ba br bc be HS).mono ?_; rintro e w1 ⟨rfl, l1, n1, rfl⟩))) | (fail)
  all_goals go_wp2
  all_goals go_ret
  all_goals exact ⟨rfl, (by repeat (first | with_reducible exact Pushed.refl _ | with_reducible assumption | with_reducible refine Pushed.push ?_ _ | with_reducible refine Pushed.alloc ?_ _ | with_reducible refine Pushed.drewN ?_ _ | with_reducible refine Pushed.drew ?_))⟩
set_option maxHeartbeats 2000000 in
theorem rcheck_ok1 (hi : id.size ≤ maxLen) (hc : cur.size ≤ maxLen) (h : identB id.data.toList 16 = true) (h2 : curB cur.data.toList = true) (q0 : inB ap 1 999999999999 = true) (q1 : inB rv 0 999999999999 = true) (q2 : inB cl 0 999999999999 = true) (q3 : inB ex 0 999999999999 = true) (hL : rv + cl + ex ≤ ap) (t1 : 0 ≤ at_) (t2 : at_ ≤ 1099511627776) (t3 : at_ < un) (t4 : un ≤ 1099511627776) (p1 : 0 ≤ pa) (p2 : pa ≤ 8) (p3 : pa ≤ cl) (p4 : (pa = 0 ∧ cl = 0) ∨ (pa ≠ 0 ∧ cl ≠ 0)) (s' : Int) (HS : Hid (s' = auState ap rv cl ex)) (hs1 : ((1 : Int) != s') = false) (hx : (ex != 0) = false) :
    Calls Try.prog 13 #[auV id cur ap rv cl ex 1 at_ un pa] w fun e w' => e = .returned (.int .i64 0) ∧ Pushed w w' := by
  have ba : 0 ≤ ap ∧ ap ≤ 9999999999999 := by unfold inB at q0; simp at q0; omega
  have br : 0 ≤ rv ∧ rv ≤ 9999999999999 := by unfold inB at q1; simp at q1; omega
  have bc : 0 ≤ cl ∧ cl ≤ 9999999999999 := by unfold inB at q2; simp at q2; omega
  have be : 0 ≤ ex ∧ ex ≤ 9999999999999 := by unfold inB at q3; simp at q3; omega
  have d0 : decide (ap < rv + cl + ex) = false := decide_eq_false (by omega)
  have d3 : decide (at_ < 0) = false := decide_eq_false (by omega)
  have d4 : decide (1099511627776 < at_) = false := decide_eq_false (by omega)
  have d5 : decide (un ≤ at_) = false := decide_eq_false (by omega)
  have d6 : decide (1099511627776 < un) = false := decide_eq_false (by omega)
  obtain ⟨z, z1, z2⟩ : ∃ z : Bool, (pa == 0) = z ∧ (cl == 0) = z := by
    rcases p4 with ⟨y1, y2⟩ | ⟨y1, y2⟩
    · exact ⟨true, by simp [y1], by simp [y2]⟩
    · exact ⟨false, by simp [y1], by simp [y2]⟩
  clear p4
  have d7 : decide (pa < 0) = false := decide_eq_false (by omega)
  have d8 : decide (8 < pa) = false := decide_eq_false (by omega)
  have d9 : decide (cl < pa) = false := decide_eq_false (by omega)
  go_enter Try.func13, Try.ntmps13
  go_wp2_with (first | (go_at_call 29; refine (refid_any _ hi _).mono ?_; rintro e w1 ⟨rfl, rfl⟩) | (go_at_call 30; refine (refcur_any _ hc _).mono ?_; rintro e w1 ⟨rfl, rfl⟩) | (go_at_call 31; refine (within_any _ _ _ _).mono ?_; rintro e w1 ⟨rfl, rfl⟩))
  all_goals first | (exfalso; simp at *; omega) | skip
  first | (go_region_with (first | (go_at_call 32; refine (refstate_is _ _ _ _ _ _ _ _ _ _ _ ba br bc be HS).mono ?_; rintro e w1 ⟨rfl, l1, n1, rfl⟩))) | (fail)
  all_goals go_wp2
  all_goals go_ret
  all_goals exact ⟨rfl, (by repeat (first | with_reducible exact Pushed.refl _ | with_reducible assumption | with_reducible refine Pushed.push ?_ _ | with_reducible refine Pushed.alloc ?_ _ | with_reducible refine Pushed.drewN ?_ _ | with_reducible refine Pushed.drew ?_))⟩
set_option maxHeartbeats 2000000 in
theorem rcheck_ok2 (hi : id.size ≤ maxLen) (hc : cur.size ≤ maxLen) (h : identB id.data.toList 16 = true) (h2 : curB cur.data.toList = true) (q0 : inB ap 1 999999999999 = true) (q1 : inB rv 0 999999999999 = true) (q2 : inB cl 0 999999999999 = true) (q3 : inB ex 0 999999999999 = true) (hL : rv + cl + ex ≤ ap) (t1 : 0 ≤ at_) (t2 : at_ ≤ 1099511627776) (t3 : at_ < un) (t4 : un ≤ 1099511627776) (p1 : 0 ≤ pa) (p2 : pa ≤ 8) (p3 : pa ≤ cl) (p4 : (pa = 0 ∧ cl = 0) ∨ (pa ≠ 0 ∧ cl ≠ 0)) (s' : Int) (HS : Hid (s' = auState ap rv cl ex)) (hs1 : (st != s') = false) (ho : (st == 1) = false) :
    Calls Try.prog 13 #[auV id cur ap rv cl ex st at_ un pa] w fun e w' => e = .returned (.int .i64 0) ∧ Pushed w w' := by
  have ba : 0 ≤ ap ∧ ap ≤ 9999999999999 := by unfold inB at q0; simp at q0; omega
  have br : 0 ≤ rv ∧ rv ≤ 9999999999999 := by unfold inB at q1; simp at q1; omega
  have bc : 0 ≤ cl ∧ cl ≤ 9999999999999 := by unfold inB at q2; simp at q2; omega
  have be : 0 ≤ ex ∧ ex ≤ 9999999999999 := by unfold inB at q3; simp at q3; omega
  have d0 : decide (ap < rv + cl + ex) = false := decide_eq_false (by omega)
  have d3 : decide (at_ < 0) = false := decide_eq_false (by omega)
  have d4 : decide (1099511627776 < at_) = false := decide_eq_false (by omega)
  have d5 : decide (un ≤ at_) = false := decide_eq_false (by omega)
  have d6 : decide (1099511627776 < un) = false := decide_eq_false (by omega)
  obtain ⟨z, z1, z2⟩ : ∃ z : Bool, (pa == 0) = z ∧ (cl == 0) = z := by
    rcases p4 with ⟨y1, y2⟩ | ⟨y1, y2⟩
    · exact ⟨true, by simp [y1], by simp [y2]⟩
    · exact ⟨false, by simp [y1], by simp [y2]⟩
  clear p4
  have d7 : decide (pa < 0) = false := decide_eq_false (by omega)
  have d8 : decide (8 < pa) = false := decide_eq_false (by omega)
  have d9 : decide (cl < pa) = false := decide_eq_false (by omega)
  go_enter Try.func13, Try.ntmps13
  go_wp2_with (first | (go_at_call 29; refine (refid_any _ hi _).mono ?_; rintro e w1 ⟨rfl, rfl⟩) | (go_at_call 30; refine (refcur_any _ hc _).mono ?_; rintro e w1 ⟨rfl, rfl⟩) | (go_at_call 31; refine (within_any _ _ _ _).mono ?_; rintro e w1 ⟨rfl, rfl⟩))
  all_goals first | (exfalso; simp at *; omega) | skip
  first | (go_region_with (first | (go_at_call 32; refine (refstate_is _ _ _ _ _ _ _ _ _ _ _ ba br bc be HS).mono ?_; rintro e w1 ⟨rfl, l1, n1, rfl⟩))) | (fail)
  all_goals go_wp2
  all_goals go_ret
  all_goals exact ⟨rfl, (by repeat (first | with_reducible exact Pushed.refl _ | with_reducible assumption | with_reducible refine Pushed.push ?_ _ | with_reducible refine Pushed.alloc ?_ _ | with_reducible refine Pushed.drewN ?_ _ | with_reducible refine Pushed.drew ?_))⟩
end
end Go.Proofs.Ytmigodjkenhedaa

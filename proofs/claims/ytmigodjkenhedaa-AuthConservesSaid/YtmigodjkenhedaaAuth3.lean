/-
  CONTRACT of the check of an authorization (the program's), its last ways.
-/
import Derived.Test.YtmigodjkenhedaaAuth2
import Derived.Deep.RegionHeld3
import Derived.Deep.RegionWith
namespace Go.Proofs.Ytmigodjkenhedaa
open Go.RowKit
set_option linter.unusedVariables false
section
variable (id cur : ByteArray) (ap rv cl ex st at_ un pa : Int) (w : World)
theorem settled_is {s' : Int} (ha : 0 ≤ ap ∧ ap ≤ 9999999999999) (hr : 0 ≤ rv ∧ rv ≤ 9999999999999) (hc : 0 ≤ cl ∧ cl ≤ 9999999999999) (he : 0 ≤ ex ∧ ex ≤ 9999999999999) (hs : Hid (s' = auState ap rv cl ex)) :
    Calls Try.prog 28 #[auV id cur ap rv cl ex st at_ un pa] w fun e w' => e = .returned (auV id cur ap rv cl ex s' at_ un pa) ∧ Pushed w w' := by
  have h := settled_any id cur ap rv cl ex st at_ un pa w ha hr hc he
  rw [← hs.out] at h
  exact h
theorem settled_same (ha : 0 ≤ ap ∧ ap ≤ 9999999999999) (hr : 0 ≤ rv ∧ rv ≤ 9999999999999) (hc : 0 ≤ cl ∧ cl ≤ 9999999999999) (he : 0 ≤ ex ∧ ex ≤ 9999999999999) (hs : Hid (st = auState ap rv cl ex)) :
    Calls Try.prog 28 #[auV id cur ap rv cl ex st at_ un pa] w fun e w' => e = .returned (auV id cur ap rv cl ex st at_ un pa) ∧ Pushed w w' := by
  have h := settled_any id cur ap rv cl ex st at_ un pa w ha hr hc he
  rw [← hs.out] at h
  exact h
set_option maxHeartbeats 1000000 in
theorem check_parts (hi : id.size ≤ maxLen) (hc : cur.size ≤ maxLen) (h : identB id.data.toList 16 = true) (h2 : curB cur.data.toList = true) (a1 : 1 ≤ ap) (a2 : ap ≤ 999999999999) (q1 : okAmt rv = true) (q2 : okAmt cl = true) (q3 : okAmt ex = true) (hL : 0 ≤ ap - rv - cl - ex) (t1 : 0 ≤ at_) (t2 : at_ ≤ 1099511627776) (t3 : at_ < un) (t4 : un ≤ 1099511627776) (hp : pa < 0 ∨ 8 < pa ∨ cl < pa ∨ (pa = 0 ∧ cl ≠ 0) ∨ (pa ≠ 0 ∧ cl = 0)) :
    Calls Try.prog 12 #[auV id cur ap rv cl ex st at_ un pa] w fun e w' => e = .returned (.int .i64 4) ∧ Pushed w w' := by
  have ba : 0 ≤ ap ∧ ap ≤ 9999999999999 := by omega
  have br := okAmt_bd q1
  have bc := okAmt_bd q2
  have be := okAmt_bd q3
  have d1 : decide (ap < 1) = false := decide_eq_false (by omega)
  have d2 : decide (999999999999 < ap) = false := decide_eq_false (by omega)
  have d3 : decide (at_ < 0) = false := decide_eq_false (by omega)
  have d4 : decide (1099511627776 < at_) = false := decide_eq_false (by omega)
  have d5 : decide (un ≤ at_) = false := decide_eq_false (by omega)
  have d6 : decide (1099511627776 < un) = false := decide_eq_false (by omega)
  by_cases p1 : pa < 0
  · clear hp
    go_enter Try.func12, Try.ntmps12
    go_wp2_with (first | (go_at_call 25; refine (ident_any _ hi _ _).mono ?_; rintro e w1 ⟨rfl, rfl⟩) | (go_at_call 26; refine (currency_any _ hc _).mono ?_; rintro e w1 ⟨rfl, rfl⟩) | (go_at_call 27; refine (possible_any _ _).mono ?_; rintro e w1 ⟨rfl, rfl⟩) | (go_at_call 21; refine (left_any _ _ _ _ _ _ _ _ _ _ _ ba br bc be).mono ?_; rintro e w1 ⟨rfl, rfl⟩) | (go_at_call 28; refine (settled_any _ _ _ _ _ _ _ _ _ _ _ ba br bc be).mono ?_; rintro e w1 ⟨rfl, l1, n1, rfl⟩))
    go_ret
    exact ⟨rfl, (by repeat (first | with_reducible exact Pushed.refl _ | with_reducible assumption | with_reducible refine Pushed.push ?_ _ | with_reducible refine Pushed.alloc ?_ _ | with_reducible refine Pushed.drewN ?_ _ | with_reducible refine Pushed.drew ?_))⟩
  by_cases p2 : 8 < pa
  · clear hp
    go_enter Try.func12, Try.ntmps12
    go_wp2_with (first | (go_at_call 25; refine (ident_any _ hi _ _).mono ?_; rintro e w1 ⟨rfl, rfl⟩) | (go_at_call 26; refine (currency_any _ hc _).mono ?_; rintro e w1 ⟨rfl, rfl⟩) | (go_at_call 27; refine (possible_any _ _).mono ?_; rintro e w1 ⟨rfl, rfl⟩) | (go_at_call 21; refine (left_any _ _ _ _ _ _ _ _ _ _ _ ba br bc be).mono ?_; rintro e w1 ⟨rfl, rfl⟩) | (go_at_call 28; refine (settled_any _ _ _ _ _ _ _ _ _ _ _ ba br bc be).mono ?_; rintro e w1 ⟨rfl, l1, n1, rfl⟩))
    go_ret
    exact ⟨rfl, (by repeat (first | with_reducible exact Pushed.refl _ | with_reducible assumption | with_reducible refine Pushed.push ?_ _ | with_reducible refine Pushed.alloc ?_ _ | with_reducible refine Pushed.drewN ?_ _ | with_reducible refine Pushed.drew ?_))⟩
  by_cases p3 : cl < pa
  · clear hp
    go_enter Try.func12, Try.ntmps12
    go_wp2_with (first | (go_at_call 25; refine (ident_any _ hi _ _).mono ?_; rintro e w1 ⟨rfl, rfl⟩) | (go_at_call 26; refine (currency_any _ hc _).mono ?_; rintro e w1 ⟨rfl, rfl⟩) | (go_at_call 27; refine (possible_any _ _).mono ?_; rintro e w1 ⟨rfl, rfl⟩) | (go_at_call 21; refine (left_any _ _ _ _ _ _ _ _ _ _ _ ba br bc be).mono ?_; rintro e w1 ⟨rfl, rfl⟩) | (go_at_call 28; refine (settled_any _ _ _ _ _ _ _ _ _ _ _ ba br bc be).mono ?_; rintro e w1 ⟨rfl, l1, n1, rfl⟩))
    go_ret
    exact ⟨rfl, (by repeat (first | with_reducible exact Pushed.refl _ | with_reducible assumption | with_reducible refine Pushed.push ?_ _ | with_reducible refine Pushed.alloc ?_ _ | with_reducible refine Pushed.drewN ?_ _ | with_reducible refine Pushed.drew ?_))⟩
  obtain ⟨z, z1, z2⟩ : ∃ z : Bool, (pa == 0) = z ∧ (cl == 0) = !z := by
    rcases (by omega : (pa = 0 ∧ cl ≠ 0) ∨ (pa ≠ 0 ∧ cl = 0)) with ⟨y1, y2⟩ | ⟨y1, y2⟩
    · exact ⟨true, by simp [y1], by simp [y2]⟩
    · exact ⟨false, by simp [y1], by simp [y2]⟩
  have d7 : decide (pa < 0) = false := decide_eq_false (by omega)
  have d8 : decide (8 < pa) = false := decide_eq_false (by omega)
  have d9 : decide (cl < pa) = false := decide_eq_false (by omega)
  clear hp
  go_enter Try.func12, Try.ntmps12
  go_wp2_with (first | (go_at_call 25; refine (ident_any _ hi _ _).mono ?_; rintro e w1 ⟨rfl, rfl⟩) | (go_at_call 26; refine (currency_any _ hc _).mono ?_; rintro e w1 ⟨rfl, rfl⟩) | (go_at_call 27; refine (possible_any _ _).mono ?_; rintro e w1 ⟨rfl, rfl⟩) | (go_at_call 21; refine (left_any _ _ _ _ _ _ _ _ _ _ _ ba br bc be).mono ?_; rintro e w1 ⟨rfl, rfl⟩) | (go_at_call 28; refine (settled_any _ _ _ _ _ _ _ _ _ _ _ ba br bc be).mono ?_; rintro e w1 ⟨rfl, l1, n1, rfl⟩))
  all_goals first | (go_ret; exact ⟨rfl, (by repeat (first | with_reducible exact Pushed.refl _ | with_reducible assumption | with_reducible refine Pushed.push ?_ _ | with_reducible refine Pushed.alloc ?_ _ | with_reducible refine Pushed.drewN ?_ _ | with_reducible refine Pushed.drew ?_))⟩) | (exfalso; simp at *; omega)
section
attribute [local go_sem] undef
set_option maxHeartbeats 2000000 in
theorem check_st (hi : id.size ≤ maxLen) (hc : cur.size ≤ maxLen) (h : identB id.data.toList 16 = true) (h2 : curB cur.data.toList = true) (a1 : 1 ≤ ap) (a2 : ap ≤ 999999999999) (q1 : okAmt rv = true) (q2 : okAmt cl = true) (q3 : okAmt ex = true) (hL : 0 ≤ ap - rv - cl - ex) (t1 : 0 ≤ at_) (t2 : at_ ≤ 1099511627776) (t3 : at_ < un) (t4 : un ≤ 1099511627776) (p1 : 0 ≤ pa) (p2 : pa ≤ 8) (p3 : pa ≤ cl) (p4 : (pa = 0 ∧ cl = 0) ∨ (pa ≠ 0 ∧ cl ≠ 0)) (s' : Int) (hS : s' = auState ap rv cl ex) (hs1 : (st != s') = true) (hs : (st == s') = false) :
    Calls Try.prog 12 #[auV id cur ap rv cl ex st at_ un pa] w fun e w' => e = .returned (.int .i64 8) ∧ Pushed w w' := by
  have ba : 0 ≤ ap ∧ ap ≤ 9999999999999 := by omega
  have br := okAmt_bd q1
  have bc := okAmt_bd q2
  have be := okAmt_bd q3
  have d1 : decide (ap < 1) = false := decide_eq_false (by omega)
  have d2 : decide (999999999999 < ap) = false := decide_eq_false (by omega)
  have d3 : decide (at_ < 0) = false := decide_eq_false (by omega)
  have d4 : decide (1099511627776 < at_) = false := decide_eq_false (by omega)
  have d5 : decide (un ≤ at_) = false := decide_eq_false (by omega)
  have d6 : decide (1099511627776 < un) = false := decide_eq_false (by omega)
  obtain ⟨z, z1, z2⟩ : ∃ z : Bool, (pa == 0) = z ∧ (cl == 0) = z := by
    rcases p4 with ⟨y1, y2⟩ | ⟨y1, y2⟩
    · exact ⟨true, by simp [y1], by simp [y2]⟩
    · exact ⟨false, by simp [y1], by simp [y2]⟩
  clear p4
  have d7 : decide (pa < 0) = false := decide_eq_false (by omega)
  have d8 : decide (8 < pa) = false := decide_eq_false (by omega)
  have d9 : decide (cl < pa) = false := decide_eq_false (by omega)
  have HS := Lib.hid hS
  clear hS
  go_enter Try.func12, Try.ntmps12
  go_wp2_with (first | (go_at_call 25; refine (ident_any _ hi _ _).mono ?_; rintro e w1 ⟨rfl, rfl⟩) | (go_at_call 26; refine (currency_any _ hc _).mono ?_; rintro e w1 ⟨rfl, rfl⟩) | (go_at_call 27; refine (possible_any _ _).mono ?_; rintro e w1 ⟨rfl, rfl⟩) | (go_at_call 21; refine (left_any _ _ _ _ _ _ _ _ _ _ _ ba br bc be).mono ?_; rintro e w1 ⟨rfl, rfl⟩))
  all_goals first | (exfalso; simp at *; omega) | skip
  first | (go_region_with (first | (go_at_call 28; refine (settled_is _ _ _ _ _ _ _ _ _ _ _ ba br bc be HS).mono ?_; rintro e w1 ⟨rfl, l1, n1, rfl⟩))) | (fail)
  all_goals go_wp2
  all_goals go_ret
  all_goals exact ⟨rfl, (by repeat (first | with_reducible exact Pushed.refl _ | with_reducible assumption | with_reducible refine Pushed.push ?_ _ | with_reducible refine Pushed.alloc ?_ _ | with_reducible refine Pushed.drewN ?_ _ | with_reducible refine Pushed.drew ?_))⟩
set_option maxHeartbeats 2000000 in
theorem check_ok2 (hi : id.size ≤ maxLen) (hc : cur.size ≤ maxLen) (h : identB id.data.toList 16 = true) (h2 : curB cur.data.toList = true) (a1 : 1 ≤ ap) (a2 : ap ≤ 999999999999) (q1 : okAmt rv = true) (q2 : okAmt cl = true) (q3 : okAmt ex = true) (hL : 0 ≤ ap - rv - cl - ex) (t1 : 0 ≤ at_) (t2 : at_ ≤ 1099511627776) (t3 : at_ < un) (t4 : un ≤ 1099511627776) (p1 : 0 ≤ pa) (p2 : pa ≤ 8) (p3 : pa ≤ cl) (p4 : (pa = 0 ∧ cl = 0) ∨ (pa ≠ 0 ∧ cl ≠ 0)) (hs : st = auState ap rv cl ex) (ho : (st == 1) = false) :
    Calls Try.prog 12 #[auV id cur ap rv cl ex st at_ un pa] w fun e w' => e = .returned (.int .i64 0) ∧ Pushed w w' := by
  have ba : 0 ≤ ap ∧ ap ≤ 9999999999999 := by omega
  have br := okAmt_bd q1
  have bc := okAmt_bd q2
  have be := okAmt_bd q3
  have d1 : decide (ap < 1) = false := decide_eq_false (by omega)
  have d2 : decide (999999999999 < ap) = false := decide_eq_false (by omega)
  have d3 : decide (at_ < 0) = false := decide_eq_false (by omega)
  have d4 : decide (1099511627776 < at_) = false := decide_eq_false (by omega)
  have d5 : decide (un ≤ at_) = false := decide_eq_false (by omega)
  have d6 : decide (1099511627776 < un) = false := decide_eq_false (by omega)
  obtain ⟨z, z1, z2⟩ : ∃ z : Bool, (pa == 0) = z ∧ (cl == 0) = z := by
    rcases p4 with ⟨y1, y2⟩ | ⟨y1, y2⟩
    · exact ⟨true, by simp [y1], by simp [y2]⟩
    · exact ⟨false, by simp [y1], by simp [y2]⟩
  clear p4
  have d7 : decide (pa < 0) = false := decide_eq_false (by omega)
  have d8 : decide (8 < pa) = false := decide_eq_false (by omega)
  have d9 : decide (cl < pa) = false := decide_eq_false (by omega)
  have HS := Lib.hid hs
  clear hs
  go_enter Try.func12, Try.ntmps12
  go_wp2_with (first | (go_at_call 25; refine (ident_any _ hi _ _).mono ?_; rintro e w1 ⟨rfl, rfl⟩) | (go_at_call 26; refine (currency_any _ hc _).mono ?_; rintro e w1 ⟨rfl, rfl⟩) | (go_at_call 27; refine (possible_any _ _).mono ?_; rintro e w1 ⟨rfl, rfl⟩) | (go_at_call 21; refine (left_any _ _ _ _ _ _ _ _ _ _ _ ba br bc be).mono ?_; rintro e w1 ⟨rfl, rfl⟩))
  all_goals first | (exfalso; simp at *; omega) | skip
  first | (go_region_with (first | (go_at_call 28; refine (settled_same _ _ _ _ _ _ _ _ _ _ _ ba br bc be HS).mono ?_; rintro e w1 ⟨rfl, l1, n1, rfl⟩))) | (fail)
  all_goals go_wp2
  all_goals go_ret
  all_goals exact ⟨rfl, (by repeat (first | with_reducible exact Pushed.refl _ | with_reducible assumption | with_reducible refine Pushed.push ?_ _ | with_reducible refine Pushed.alloc ?_ _ | with_reducible refine Pushed.drewN ?_ _ | with_reducible refine Pushed.drew ?_))⟩
end
set_option maxHeartbeats 2000000 in
theorem check_ex (hi : id.size ≤ maxLen) (hc : cur.size ≤ maxLen) (h : identB id.data.toList 16 = true) (h2 : curB cur.data.toList = true) (a1 : 1 ≤ ap) (a2 : ap ≤ 999999999999) (q1 : okAmt rv = true) (q2 : okAmt cl = true) (q3 : okAmt ex = true) (hL : 0 ≤ ap - rv - cl - ex) (t1 : 0 ≤ at_) (t2 : at_ ≤ 1099511627776) (t3 : at_ < un) (t4 : un ≤ 1099511627776) (p1 : 0 ≤ pa) (p2 : pa ≤ 8) (p3 : pa ≤ cl) (p4 : (pa = 0 ∧ cl = 0) ∨ (pa ≠ 0 ∧ cl ≠ 0)) (hs : 1 = auState ap rv cl ex) (hx : (ex != 0) = true) :
    Calls Try.prog 12 #[auV id cur ap rv cl ex 1 at_ un pa] w fun e w' => e = .returned (.int .i64 8) ∧ Pushed w w' := by
  have ba : 0 ≤ ap ∧ ap ≤ 9999999999999 := by omega
  have br := okAmt_bd q1
  have bc := okAmt_bd q2
  have be := okAmt_bd q3
  have d1 : decide (ap < 1) = false := decide_eq_false (by omega)
  have d2 : decide (999999999999 < ap) = false := decide_eq_false (by omega)
  have d3 : decide (at_ < 0) = false := decide_eq_false (by omega)
  have d4 : decide (1099511627776 < at_) = false := decide_eq_false (by omega)
  have d5 : decide (un ≤ at_) = false := decide_eq_false (by omega)
  have d6 : decide (1099511627776 < un) = false := decide_eq_false (by omega)
  obtain ⟨z, z1, z2⟩ : ∃ z : Bool, (pa == 0) = z ∧ (cl == 0) = z := by
    rcases p4 with ⟨y1, y2⟩ | ⟨y1, y2⟩
    · exact ⟨true, by simp [y1], by simp [y2]⟩
    · exact ⟨false, by simp [y1], by simp [y2]⟩
  clear p4
  have d7 : decide (pa < 0) = false := decide_eq_false (by omega)
  have d8 : decide (8 < pa) = false := decide_eq_false (by omega)
  have d9 : decide (cl < pa) = false := decide_eq_false (by omega)
  have HS := Lib.hid hs
  clear hs
  go_enter Try.func12, Try.ntmps12
  go_wp2_with (first | (go_at_call 25; refine (ident_any _ hi _ _).mono ?_; rintro e w1 ⟨rfl, rfl⟩) | (go_at_call 26; refine (currency_any _ hc _).mono ?_; rintro e w1 ⟨rfl, rfl⟩) | (go_at_call 27; refine (possible_any _ _).mono ?_; rintro e w1 ⟨rfl, rfl⟩) | (go_at_call 21; refine (left_any _ _ _ _ _ _ _ _ _ _ _ ba br bc be).mono ?_; rintro e w1 ⟨rfl, rfl⟩))
  all_goals first | (exfalso; simp at *; omega) | skip
  go_region_held3 (fun w' => w.heap.size < w'.heap.size ∧ Pushed w w' ∧ w'.cell? ⟨w.heap.size, 0, none⟩ = some (.string id) ∧ w'.cell? ⟨w.heap.size, 1, none⟩ = some (.string cur) ∧ w'.cell? ⟨w.heap.size, 2, none⟩ = some (.int .i64 ap) ∧ w'.cell? ⟨w.heap.size, 3, none⟩ = some (.int .i64 rv) ∧ w'.cell? ⟨w.heap.size, 4, none⟩ = some (.int .i64 cl) ∧ w'.cell? ⟨w.heap.size, 5, none⟩ = some (.int .i64 ex) ∧ w'.cell? ⟨w.heap.size, 6, none⟩ = some (.int .i64 1) ∧ w'.cell? ⟨w.heap.size, 7, none⟩ = some (.int .i64 at_) ∧ w'.cell? ⟨w.heap.size, 8, none⟩ = some (.int .i64 un) ∧ w'.cell? ⟨w.heap.size, 9, none⟩ = some (.int .i64 pa))
    (first | ((repeat' apply And.intro) <;> first | ((repeat (first | with_reducible exact Pushed.refl _ | with_reducible assumption | with_reducible refine Pushed.push ?_ _ | with_reducible refine Pushed.alloc ?_ _ | with_reducible refine Pushed.drewN ?_ _ | with_reducible refine Pushed.drew ?_)); done) | (go_simp; done) | (simp [size_push]; omega)))
    (first | (go_at_call 28; refine (settled_same _ _ _ _ _ _ _ _ _ _ _ ba br bc be HS).mono ?_; rintro e w1 ⟨rfl, l1, n1, rfl⟩))
  all_goals go_wp2
  all_goals go_ret
  all_goals exact ⟨rfl, (by repeat (first | with_reducible exact Pushed.refl _ | with_reducible assumption | with_reducible refine Pushed.push ?_ _ | with_reducible refine Pushed.alloc ?_ _ | with_reducible refine Pushed.drewN ?_ _ | with_reducible refine Pushed.drew ?_))⟩
set_option maxHeartbeats 2000000 in
theorem check_ok1 (hi : id.size ≤ maxLen) (hc : cur.size ≤ maxLen) (h : identB id.data.toList 16 = true) (h2 : curB cur.data.toList = true) (a1 : 1 ≤ ap) (a2 : ap ≤ 999999999999) (q1 : okAmt rv = true) (q2 : okAmt cl = true) (q3 : okAmt ex = true) (hL : 0 ≤ ap - rv - cl - ex) (t1 : 0 ≤ at_) (t2 : at_ ≤ 1099511627776) (t3 : at_ < un) (t4 : un ≤ 1099511627776) (p1 : 0 ≤ pa) (p2 : pa ≤ 8) (p3 : pa ≤ cl) (p4 : (pa = 0 ∧ cl = 0) ∨ (pa ≠ 0 ∧ cl ≠ 0)) (hs : 1 = auState ap rv cl ex) (hx : (ex != 0) = false) :
    Calls Try.prog 12 #[auV id cur ap rv cl ex 1 at_ un pa] w fun e w' => e = .returned (.int .i64 0) ∧ Pushed w w' := by
  have ba : 0 ≤ ap ∧ ap ≤ 9999999999999 := by omega
  have br := okAmt_bd q1
  have bc := okAmt_bd q2
  have be := okAmt_bd q3
  have d1 : decide (ap < 1) = false := decide_eq_false (by omega)
  have d2 : decide (999999999999 < ap) = false := decide_eq_false (by omega)
  have d3 : decide (at_ < 0) = false := decide_eq_false (by omega)
  have d4 : decide (1099511627776 < at_) = false := decide_eq_false (by omega)
  have d5 : decide (un ≤ at_) = false := decide_eq_false (by omega)
  have d6 : decide (1099511627776 < un) = false := decide_eq_false (by omega)
  obtain ⟨z, z1, z2⟩ : ∃ z : Bool, (pa == 0) = z ∧ (cl == 0) = z := by
    rcases p4 with ⟨y1, y2⟩ | ⟨y1, y2⟩
    · exact ⟨true, by simp [y1], by simp [y2]⟩
    · exact ⟨false, by simp [y1], by simp [y2]⟩
  clear p4
  have d7 : decide (pa < 0) = false := decide_eq_false (by omega)
  have d8 : decide (8 < pa) = false := decide_eq_false (by omega)
  have d9 : decide (cl < pa) = false := decide_eq_false (by omega)
  have HS := Lib.hid hs
  clear hs
  go_enter Try.func12, Try.ntmps12
  go_wp2_with (first | (go_at_call 25; refine (ident_any _ hi _ _).mono ?_; rintro e w1 ⟨rfl, rfl⟩) | (go_at_call 26; refine (currency_any _ hc _).mono ?_; rintro e w1 ⟨rfl, rfl⟩) | (go_at_call 27; refine (possible_any _ _).mono ?_; rintro e w1 ⟨rfl, rfl⟩) | (go_at_call 21; refine (left_any _ _ _ _ _ _ _ _ _ _ _ ba br bc be).mono ?_; rintro e w1 ⟨rfl, rfl⟩))
  all_goals first | (exfalso; simp at *; omega) | skip
  go_region_held3 (fun w' => w.heap.size < w'.heap.size ∧ Pushed w w' ∧ w'.cell? ⟨w.heap.size, 0, none⟩ = some (.string id) ∧ w'.cell? ⟨w.heap.size, 1, none⟩ = some (.string cur) ∧ w'.cell? ⟨w.heap.size, 2, none⟩ = some (.int .i64 ap) ∧ w'.cell? ⟨w.heap.size, 3, none⟩ = some (.int .i64 rv) ∧ w'.cell? ⟨w.heap.size, 4, none⟩ = some (.int .i64 cl) ∧ w'.cell? ⟨w.heap.size, 5, none⟩ = some (.int .i64 ex) ∧ w'.cell? ⟨w.heap.size, 6, none⟩ = some (.int .i64 1) ∧ w'.cell? ⟨w.heap.size, 7, none⟩ = some (.int .i64 at_) ∧ w'.cell? ⟨w.heap.size, 8, none⟩ = some (.int .i64 un) ∧ w'.cell? ⟨w.heap.size, 9, none⟩ = some (.int .i64 pa))
    (first | ((repeat' apply And.intro) <;> first | ((repeat (first | with_reducible exact Pushed.refl _ | with_reducible assumption | with_reducible refine Pushed.push ?_ _ | with_reducible refine Pushed.alloc ?_ _ | with_reducible refine Pushed.drewN ?_ _ | with_reducible refine Pushed.drew ?_)); done) | (go_simp; done) | (simp [size_push]; omega)))
    (first | (go_at_call 28; refine (settled_same _ _ _ _ _ _ _ _ _ _ _ ba br bc be HS).mono ?_; rintro e w1 ⟨rfl, l1, n1, rfl⟩))
  all_goals go_wp2
  all_goals go_ret
  all_goals exact ⟨rfl, (by repeat (first | with_reducible exact Pushed.refl _ | with_reducible assumption | with_reducible refine Pushed.push ?_ _ | with_reducible refine Pushed.alloc ?_ _ | with_reducible refine Pushed.drewN ?_ _ | with_reducible refine Pushed.drew ?_))⟩

theorem settle_ways (st : Int) : (st = 1 ∨ ¬ st = 1) := by omega
/-- auth.Check. -/
theorem check_any (hi : id.size ≤ maxLen) (hc : cur.size ≤ maxLen) :
    Calls Try.prog 12 #[auV id cur ap rv cl ex st at_ un pa] w fun e w' => e = .returned (.int .i64 (auCheck (identB id.data.toList 16) (curB cur.data.toList) ap rv cl ex st at_ un pa)) ∧ Pushed w w' := by
  cases h : identB id.data.toList 16 with
  | false => exact (check_name id cur ap rv cl ex st at_ un pa w hi h).mono fun e w' hh => ⟨hh.1.trans (ret_int (by simp [auCheck])), hh.2⟩
  | true =>
  cases h2 : curB cur.data.toList with
  | false => exact (check_cur id cur ap rv cl ex st at_ un pa w hi hc h h2).mono fun e w' hh => ⟨hh.1.trans (ret_int (by simp [auCheck])), hh.2⟩
  | true =>
  have hA : ∀ n : Int, okAmt n = true ↔ (0 ≤ n ∧ n ≤ 999999999999) := fun n => by unfold okAmt; simp
  have hF : ∀ n : Int, okAmt n = false ↔ ¬ (0 ≤ n ∧ n ≤ 999999999999) := fun n => by unfold okAmt; simp
  by_cases hr : ap < 1 ∨ 999999999999 < ap ∨ okAmt rv = false ∨ okAmt cl = false ∨ okAmt ex = false
  · refine (check_range id cur ap rv cl ex st at_ un pa w hi hc h h2 hr).mono fun e w' hh => ⟨hh.1.trans (ret_int ?_), hh.2⟩
    simp only [hF] at hr
    unfold auCheck
    rw [if_neg (by simp), if_neg (by simp), if_pos (by omega)]
  have q : 1 ≤ ap ∧ ap ≤ 999999999999 ∧ okAmt rv = true ∧ okAmt cl = true ∧ okAmt ex = true := by
    simp only [hF] at hr; simp only [hA]; omega
  obtain ⟨a1, a2, q1, q2, q3⟩ := q
  have r1 := (hA rv).1 q1
  have r2 := (hA cl).1 q2
  have r3 := (hA ex).1 q3
  have e0 : ∀ x y : Int, (if (true : Bool) = false then (5 : Int) else if (true : Bool) = false then 11 else if ap < 1 ∨ 999999999999 < ap ∨ rv < 0 ∨ 999999999999 < rv ∨ cl < 0 ∨ 999999999999 < cl ∨ ex < 0 ∨ 999999999999 < ex then x else y) = y := fun x y => by
    rw [if_neg (by simp), if_neg (by simp), if_neg (by omega)]
  by_cases hL : ap - rv - cl - ex < 0
  · refine (check_bal id cur ap rv cl ex st at_ un pa w hi hc h h2 a1 a2 q1 q2 q3 hL).mono fun e w' hh => ⟨hh.1.trans (ret_int ?_), hh.2⟩
    unfold auCheck
    rw [e0, if_pos hL]
  by_cases ht : at_ < 0 ∨ 1099511627776 < at_ ∨ un ≤ at_ ∨ 1099511627776 < un
  · refine (check_time id cur ap rv cl ex st at_ un pa w hi hc h h2 a1 a2 q1 q2 q3 (by omega) ht).mono fun e w' hh => ⟨hh.1.trans (ret_int ?_), hh.2⟩
    unfold auCheck
    rw [e0, if_neg hL, if_pos ht]
  by_cases hp : pa < 0 ∨ 8 < pa ∨ cl < pa ∨ (pa = 0 ∧ cl ≠ 0) ∨ (pa ≠ 0 ∧ cl = 0)
  · refine (check_parts id cur ap rv cl ex st at_ un pa w hi hc h h2 a1 a2 q1 q2 q3 (by omega) (by omega) (by omega) (by omega) (by omega) hp).mono fun e w' hh => ⟨hh.1.trans (ret_int ?_), hh.2⟩
    unfold auCheck
    rw [e0, if_neg hL, if_neg ht, if_pos hp]
  by_cases hs : st = auState ap rv cl ex
  · by_cases ho : st = 1
    · subst ho
      by_cases hx : ex = 0
      · refine (check_ok1 id cur ap rv cl ex at_ un pa w hi hc h h2 a1 a2 q1 q2 q3 (by omega) (by omega) (by omega) (by omega) (by omega) (by omega) (by omega) (by omega) (by omega) hs (by simp [hx])).mono fun e w' hh => ⟨hh.1.trans (ret_int ?_), hh.2⟩
        unfold auCheck
        rw [e0, if_neg hL, if_neg ht, if_neg hp, if_neg (by omega)]
      · refine (check_ex id cur ap rv cl ex at_ un pa w hi hc h h2 a1 a2 q1 q2 q3 (by omega) (by omega) (by omega) (by omega) (by omega) (by omega) (by omega) (by omega) (by omega) hs (by simp [hx])).mono fun e w' hh => ⟨hh.1.trans (ret_int ?_), hh.2⟩
        unfold auCheck
        rw [e0, if_neg hL, if_neg ht, if_neg hp, if_pos (by omega)]
    · refine (check_ok2 id cur ap rv cl ex st at_ un pa w hi hc h h2 a1 a2 q1 q2 q3 (by omega) (by omega) (by omega) (by omega) (by omega) (by omega) (by omega) (by omega) (by omega) hs (by simp [ho])).mono fun e w' hh => ⟨hh.1.trans (ret_int ?_), hh.2⟩
      unfold auCheck
      rw [e0, if_neg hL, if_neg ht, if_neg hp, if_neg (by omega)]
  · refine (check_st id cur ap rv cl ex st at_ un pa w hi hc h h2 a1 a2 q1 q2 q3 (by omega) (by omega) (by omega) (by omega) (by omega) (by omega) (by omega) (by omega) (by omega) _ rfl (by simp [hs]) (by simp [hs])).mono fun e w' hh => ⟨hh.1.trans (ret_int ?_), hh.2⟩
    unfold auCheck
    rw [e0, if_neg hL, if_neg ht, if_neg hp, if_pos (by omega)]
end
end Go.Proofs.Ytmigodjkenhedaa

/-
  CONTRACTS of the specification's calls on an authorization, by the same plain functions as the program's.
-/
import Derived.Test.YtmigodjkenhedaaAuth5
import Derived.Test.YtmigodjkenhedaaAuth9
import Derived.Deep.RegionWith
namespace Go.Proofs.Ytmigodjkenhedaa
open Go.RowKit
set_option linter.unusedVariables false
section
variable (id cur : ByteArray) (ap rv cl ex st at_ un pa : Int) (w : World)
theorem ropen_ok (hi : id.size ≤ maxLen) (hcu : cur.size ≤ maxLen) (HC : Hid (0 = auCheck (identB id.data.toList 16) (curB cur.data.toList) ap rv cl ex st at_ un pa)) (ka : 1 ≤ ap ∧ ap ≤ 999999999999) (kr : 0 ≤ rv ∧ rv ≤ 999999999999) (kc : 0 ≤ cl ∧ cl ≤ 999999999999) (ke : 0 ≤ ex ∧ ex ≤ 999999999999) (kl : 0 ≤ ap - rv - cl - ex) :
    Calls Try.prog 14 #[auV id cur ap rv cl ex st at_ un pa] w fun e w' => e = .returned (.int .i64 (ap - rv - cl - ex)) ∧ Pushed w w' := by
  go_enter Try.func14, Try.ntmps14
  go_wp2_with (go_at_call 13; refine (rcheck_is _ _ _ _ _ _ _ _ _ _ _ hi hcu HC).mono ?_; rintro e w1 ⟨rfl, l1, n1, rfl⟩)
  go_ret
  exact ⟨rfl, (by repeat (first | with_reducible exact Pushed.refl _ | with_reducible assumption | with_reducible refine Pushed.push ?_ _ | with_reducible refine Pushed.alloc ?_ _ | with_reducible refine Pushed.drewN ?_ _ | with_reducible refine Pushed.drew ?_))⟩
theorem ropen_err {c : Int} (hi : id.size ≤ maxLen) (hcu : cur.size ≤ maxLen) (HC : Hid (c = auCheck (identB id.data.toList 16) (curB cur.data.toList) ap rv cl ex st at_ un pa)) (h1 : (c != 0) = true) :
    Calls Try.prog 14 #[auV id cur ap rv cl ex st at_ un pa] w fun e w' => e = .returned (.int .i64 0) ∧ Pushed w w' := by
  go_enter Try.func14, Try.ntmps14
  go_wp2_with (go_at_call 13; refine (rcheck_is _ _ _ _ _ _ _ _ _ _ _ hi hcu HC).mono ?_; rintro e w1 ⟨rfl, l1, n1, rfl⟩)
  go_ret
  exact ⟨rfl, (by repeat (first | with_reducible exact Pushed.refl _ | with_reducible assumption | with_reducible refine Pushed.push ?_ _ | with_reducible refine Pushed.alloc ?_ _ | with_reducible refine Pushed.drewN ?_ _ | with_reducible refine Pushed.drew ?_))⟩
theorem usable_err {c : Int} (hi : id.size ≤ maxLen) (hcu : cur.size ≤ maxLen) (HC : Hid (c = auCheck (identB id.data.toList 16) (curB cur.data.toList) ap rv cl ex st at_ un pa)) (h1 : (c != 0) = true) :
    Calls Try.prog 41 #[auV id cur ap rv cl ex st at_ un pa] w fun e w' => e = .returned (.int .i64 c) ∧ Pushed w w' := by
  go_enter Try.func41, Try.ntmps41
  go_wp2_with (go_at_call 13; refine (rcheck_is _ _ _ _ _ _ _ _ _ _ _ hi hcu HC).mono ?_; rintro e w1 ⟨rfl, l1, n1, rfl⟩)
  go_ret
  exact ⟨rfl, (by repeat (first | with_reducible exact Pushed.refl _ | with_reducible assumption | with_reducible refine Pushed.push ?_ _ | with_reducible refine Pushed.alloc ?_ _ | with_reducible refine Pushed.drewN ?_ _ | with_reducible refine Pushed.drew ?_))⟩
theorem usable_state (hi : id.size ≤ maxLen) (hcu : cur.size ≤ maxLen) (HC : Hid (0 = auCheck (identB id.data.toList 16) (curB cur.data.toList) ap rv cl ex st at_ un pa)) (h1 : (st != 1) = true) :
    Calls Try.prog 41 #[auV id cur ap rv cl ex st at_ un pa] w fun e w' => e = .returned (.int .i64 8) ∧ Pushed w w' := by
  go_enter Try.func41, Try.ntmps41
  go_wp2_with (go_at_call 13; refine (rcheck_is _ _ _ _ _ _ _ _ _ _ _ hi hcu HC).mono ?_; rintro e w1 ⟨rfl, l1, n1, rfl⟩)
  go_ret
  exact ⟨rfl, (by repeat (first | with_reducible exact Pushed.refl _ | with_reducible assumption | with_reducible refine Pushed.push ?_ _ | with_reducible refine Pushed.alloc ?_ _ | with_reducible refine Pushed.drewN ?_ _ | with_reducible refine Pushed.drew ?_))⟩
theorem usable_ok (hi : id.size ≤ maxLen) (hcu : cur.size ≤ maxLen) (HC : Hid (0 = auCheck (identB id.data.toList 16) (curB cur.data.toList) ap rv cl ex 1 at_ un pa)) :
    Calls Try.prog 41 #[auV id cur ap rv cl ex 1 at_ un pa] w fun e w' => e = .returned (.int .i64 0) ∧ Pushed w w' := by
  go_enter Try.func41, Try.ntmps41
  go_wp2_with (go_at_call 13; refine (rcheck_is _ _ _ _ _ _ _ _ _ _ _ hi hcu HC).mono ?_; rintro e w1 ⟨rfl, l1, n1, rfl⟩)
  go_ret
  exact ⟨rfl, (by repeat (first | with_reducible exact Pushed.refl _ | with_reducible assumption | with_reducible refine Pushed.push ?_ _ | with_reducible refine Pushed.alloc ?_ _ | with_reducible refine Pushed.drewN ?_ _ | with_reducible refine Pushed.drew ?_))⟩
theorem usable_any (hi : id.size ≤ maxLen) (hcu : cur.size ≤ maxLen) {c : Int} (HC : Hid (c = openE (auCheck (identB id.data.toList 16) (curB cur.data.toList) ap rv cl ex st at_ un pa) st)) :
    Calls Try.prog 41 #[auV id cur ap rv cl ex st at_ un pa] w fun e w' => e = .returned (.int .i64 c) ∧ Pushed w w' := by
  have h := HC.out
  unfold openE at h
  by_cases h0 : auCheck (identB id.data.toList 16) (curB cur.data.toList) ap rv cl ex st at_ un pa = 0
  · rw [if_neg (by omega)] at h
    by_cases h1 : st = 1
    · subst h1
      rw [if_neg (by omega)] at h
      subst h
      exact usable_ok id cur ap rv cl ex at_ un pa w hi hcu h0.symm
    · rw [if_pos h1] at h
      subst h
      exact usable_state id cur ap rv cl ex st at_ un pa w hi hcu h0.symm (by simp [h1])
  · rw [if_pos h0] at h
    exact usable_err id cur ap rv cl ex st at_ un pa w hi hcu h (by simp [h, h0])
theorem within_is {b : Bool} (n lo hi : Int) (w : World) (h : Hid (b = inB n lo hi)) :
    Calls Try.prog 31 #[.int .i64 n, .int .i64 lo, .int .i64 hi] w fun e w' => e = .returned (.bool b) ∧ w = w' := by
  have hh := within_any n lo hi w
  rw [← h.out] at hh
  exact hh
theorem refstate_p (ha : 0 ≤ ap ∧ ap ≤ 9999999999999) (hr : 0 ≤ rv ∧ rv ≤ 9999999999999) (hc : 0 ≤ cl ∧ cl ≤ 9999999999999) (he : 0 ≤ ex ∧ ex ≤ 9999999999999) :
    Calls Try.prog 32 #[auV id cur ap rv cl ex st at_ un pa] w fun e w' => e = .returned (.int .i64 (auState ap rv cl ex)) ∧ Pushed w w' := refstate_any id cur ap rv cl ex st at_ un pa w ha hr hc he
theorem inB_t {n lo hi : Int} (h : lo ≤ n ∧ n ≤ hi) : Hid (true = inB n lo hi) := by show true = _; unfold inB; simp [h]
theorem inB_f {n lo hi : Int} (h : ¬ (lo ≤ n ∧ n ≤ hi)) : Hid (false = inB n lo hi) := by show false = _; unfold inB; simp only [decide_eq_false h]
set_option maxHeartbeats 1000000 in
theorem rraise_err (amount til : Int) {c : Int} (hi : id.size ≤ maxLen) (hcu : cur.size ≤ maxLen) (HC : Hid (c = openE (auCheck (identB id.data.toList 16) (curB cur.data.toList) ap rv cl ex st at_ un pa) st)) (h1 : (c != 0) = true) :
    Calls Try.prog 33 #[auV id cur ap rv cl ex st at_ un pa, .int .i64 amount, .int .i64 til] w fun e w' => e = .returned (.tuple #[auV ⟨#[]⟩ ⟨#[]⟩ 0 0 0 0 0 0 0 0, .int .i64 c]) ∧ Pushed w w' := by
  go_enter Try.func33, Try.ntmps33
  go_wp2_with (first | (go_at_call 41; refine (usable_any _ _ _ _ _ _ _ _ _ _ _ hi hcu HC).mono ?_; rintro e w1 ⟨rfl, l1, n1, rfl⟩) | (go_at_call 31; refine (within_is _ _ _ _ (by assumption)).mono ?_; rintro e w1 ⟨rfl, rfl⟩) | (go_at_call 14; refine (ropen_ok _ _ _ _ _ _ _ _ _ _ _ hi hcu HK ka kr kc ke kl).mono ?_; rintro e w1 ⟨rfl, l3, n3, rfl⟩) | (go_at_call 32; refine (refstate_p _ _ _ _ _ _ _ _ _ _ _ (by omega) (by omega) (by omega) (by omega)).mono ?_; rintro e w1 ⟨rfl, l4, n4, rfl⟩))
  all_goals exact bodyPost_ret (v := .tuple #[auV ⟨#[]⟩ ⟨#[]⟩ 0 0 0 0 0 0 0 0, .int .i64 c]) (by simp [results, Try.results33, go_sem]) rfl ⟨rfl, (by repeat (first | with_reducible exact Pushed.refl _ | with_reducible assumption | with_reducible refine Pushed.push ?_ _ | with_reducible refine Pushed.alloc ?_ _ | with_reducible refine Pushed.drewN ?_ _ | with_reducible refine Pushed.drew ?_))⟩
set_option maxHeartbeats 1000000 in
theorem rraise_range (amount til : Int) (hi : id.size ≤ maxLen) (hcu : cur.size ≤ maxLen) (HC : Hid (0 = openE (auCheck (identB id.data.toList 16) (curB cur.data.toList) ap rv cl ex 1 at_ un pa) 1)) (HK : Hid (0 = auCheck (identB id.data.toList 16) (curB cur.data.toList) ap rv cl ex 1 at_ un pa)) (ka : 1 ≤ ap ∧ ap ≤ 999999999999) (kr : 0 ≤ rv ∧ rv ≤ 999999999999) (kc : 0 ≤ cl ∧ cl ≤ 999999999999) (ke : 0 ≤ ex ∧ ex ≤ 999999999999) (kl : 0 ≤ ap - rv - cl - ex) (h : amount < 1 ∨ 999999999999 - ap < amount) :
    Calls Try.prog 33 #[auV id cur ap rv cl ex 1 at_ un pa, .int .i64 amount, .int .i64 til] w fun e w' => e = .returned (.tuple #[auV ⟨#[]⟩ ⟨#[]⟩ 0 0 0 0 0 0 0 0, .int .i64 4]) ∧ Pushed w w' := by
  have HW : Hid (false = inB amount 1 (999999999999 - ap)) := inB_f (by omega)
  go_enter Try.func33, Try.ntmps33
  go_wp2_with (first | (go_at_call 41; refine (usable_any _ _ _ _ _ _ _ _ _ _ _ hi hcu HC).mono ?_; rintro e w1 ⟨rfl, l1, n1, rfl⟩) | (go_at_call 31; refine (within_is _ _ _ _ (by assumption)).mono ?_; rintro e w1 ⟨rfl, rfl⟩) | (go_at_call 14; refine (ropen_ok _ _ _ _ _ _ _ _ _ _ _ hi hcu HK ka kr kc ke kl).mono ?_; rintro e w1 ⟨rfl, l3, n3, rfl⟩) | (go_at_call 32; refine (refstate_p _ _ _ _ _ _ _ _ _ _ _ (by omega) (by omega) (by omega) (by omega)).mono ?_; rintro e w1 ⟨rfl, l4, n4, rfl⟩))
  all_goals exact bodyPost_ret (v := .tuple #[auV ⟨#[]⟩ ⟨#[]⟩ 0 0 0 0 0 0 0 0, .int .i64 4]) (by simp [results, Try.results33, go_sem]) rfl ⟨rfl, (by repeat (first | with_reducible exact Pushed.refl _ | with_reducible assumption | with_reducible refine Pushed.push ?_ _ | with_reducible refine Pushed.alloc ?_ _ | with_reducible refine Pushed.drewN ?_ _ | with_reducible refine Pushed.drew ?_))⟩
set_option maxHeartbeats 1000000 in
theorem rraise_time (amount til : Int) (hi : id.size ≤ maxLen) (hcu : cur.size ≤ maxLen) (HC : Hid (0 = openE (auCheck (identB id.data.toList 16) (curB cur.data.toList) ap rv cl ex 1 at_ un pa) 1)) (HK : Hid (0 = auCheck (identB id.data.toList 16) (curB cur.data.toList) ap rv cl ex 1 at_ un pa)) (ka : 1 ≤ ap ∧ ap ≤ 999999999999) (kr : 0 ≤ rv ∧ rv ≤ 999999999999) (kc : 0 ≤ cl ∧ cl ≤ 999999999999) (ke : 0 ≤ ex ∧ ex ≤ 999999999999) (kl : 0 ≤ ap - rv - cl - ex) (h : 1 ≤ amount) (h' : amount ≤ 999999999999 - ap) (ht : til < un ∨ 1099511627776 < til) :
    Calls Try.prog 33 #[auV id cur ap rv cl ex 1 at_ un pa, .int .i64 amount, .int .i64 til] w fun e w' => e = .returned (.tuple #[auV ⟨#[]⟩ ⟨#[]⟩ 0 0 0 0 0 0 0 0, .int .i64 14]) ∧ Pushed w w' := by
  have HW : Hid (true = inB amount 1 (999999999999 - ap)) := inB_t (by omega)
  go_enter Try.func33, Try.ntmps33
  go_wp2_with (first | (go_at_call 41; refine (usable_any _ _ _ _ _ _ _ _ _ _ _ hi hcu HC).mono ?_; rintro e w1 ⟨rfl, l1, n1, rfl⟩) | (go_at_call 31; refine (within_is _ _ _ _ (by assumption)).mono ?_; rintro e w1 ⟨rfl, rfl⟩) | (go_at_call 14; refine (ropen_ok _ _ _ _ _ _ _ _ _ _ _ hi hcu HK ka kr kc ke kl).mono ?_; rintro e w1 ⟨rfl, l3, n3, rfl⟩) | (go_at_call 32; refine (refstate_p _ _ _ _ _ _ _ _ _ _ _ (by omega) (by omega) (by omega) (by omega)).mono ?_; rintro e w1 ⟨rfl, l4, n4, rfl⟩))
  all_goals exact bodyPost_ret (v := .tuple #[auV ⟨#[]⟩ ⟨#[]⟩ 0 0 0 0 0 0 0 0, .int .i64 14]) (by simp [results, Try.results33, go_sem]) rfl ⟨rfl, (by repeat (first | with_reducible exact Pushed.refl _ | with_reducible assumption | with_reducible refine Pushed.push ?_ _ | with_reducible refine Pushed.alloc ?_ _ | with_reducible refine Pushed.drewN ?_ _ | with_reducible refine Pushed.drew ?_))⟩
set_option maxHeartbeats 1000000 in
theorem rraise_ok (amount til : Int) (hi : id.size ≤ maxLen) (hcu : cur.size ≤ maxLen) (HC : Hid (0 = openE (auCheck (identB id.data.toList 16) (curB cur.data.toList) ap rv cl ex 1 at_ un pa) 1)) (HK : Hid (0 = auCheck (identB id.data.toList 16) (curB cur.data.toList) ap rv cl ex 1 at_ un pa)) (ka : 1 ≤ ap ∧ ap ≤ 999999999999) (kr : 0 ≤ rv ∧ rv ≤ 999999999999) (kc : 0 ≤ cl ∧ cl ≤ 999999999999) (ke : 0 ≤ ex ∧ ex ≤ 999999999999) (kl : 0 ≤ ap - rv - cl - ex) (h : 1 ≤ amount) (h' : amount ≤ 999999999999 - ap) (ht : un ≤ til) (ht' : til ≤ 1099511627776) :
    Calls Try.prog 33 #[auV id cur ap rv cl ex 1 at_ un pa, .int .i64 amount, .int .i64 til] w fun e w' => e = .returned (.tuple #[auV id cur (ap + amount) rv cl ex 1 at_ til pa, .int .i64 0]) ∧ Pushed w w' := by
  have HW : Hid (true = inB amount 1 (999999999999 - ap)) := inB_t (by omega)
  go_enter Try.func33, Try.ntmps33
  go_wp2_with (first | (go_at_call 41; refine (usable_any _ _ _ _ _ _ _ _ _ _ _ hi hcu HC).mono ?_; rintro e w1 ⟨rfl, l1, n1, rfl⟩) | (go_at_call 31; refine (within_is _ _ _ _ (by assumption)).mono ?_; rintro e w1 ⟨rfl, rfl⟩) | (go_at_call 14; refine (ropen_ok _ _ _ _ _ _ _ _ _ _ _ hi hcu HK ka kr kc ke kl).mono ?_; rintro e w1 ⟨rfl, l3, n3, rfl⟩) | (go_at_call 32; refine (refstate_p _ _ _ _ _ _ _ _ _ _ _ (by omega) (by omega) (by omega) (by omega)).mono ?_; rintro e w1 ⟨rfl, l4, n4, rfl⟩))
  all_goals exact bodyPost_ret (v := .tuple #[auV id cur (ap + amount) rv cl ex 1 at_ til pa, .int .i64 0]) (by simp [results, Try.results33, go_sem]) rfl ⟨rfl, (by repeat (first | with_reducible exact Pushed.refl _ | with_reducible assumption | with_reducible refine Pushed.push ?_ _ | with_reducible refine Pushed.alloc ?_ _ | with_reducible refine Pushed.drewN ?_ _ | with_reducible refine Pushed.drew ?_))⟩
set_option maxHeartbeats 1000000 in
theorem rreverse_err (amount : Int) {c : Int} (hi : id.size ≤ maxLen) (hcu : cur.size ≤ maxLen) (HC : Hid (c = openE (auCheck (identB id.data.toList 16) (curB cur.data.toList) ap rv cl ex st at_ un pa) st)) (h1 : (c != 0) = true) :
    Calls Try.prog 34 #[auV id cur ap rv cl ex st at_ un pa, .int .i64 amount] w fun e w' => e = .returned (.tuple #[auV ⟨#[]⟩ ⟨#[]⟩ 0 0 0 0 0 0 0 0, .int .i64 0, .int .i64 c]) ∧ Pushed w w' := by
  go_enter Try.func34, Try.ntmps34
  go_wp2_with (first | (go_at_call 41; refine (usable_any _ _ _ _ _ _ _ _ _ _ _ hi hcu HC).mono ?_; rintro e w1 ⟨rfl, l1, n1, rfl⟩) | (go_at_call 31; refine (within_is _ _ _ _ (by assumption)).mono ?_; rintro e w1 ⟨rfl, rfl⟩) | (go_at_call 14; refine (ropen_ok _ _ _ _ _ _ _ _ _ _ _ hi hcu HK ka kr kc ke kl).mono ?_; rintro e w1 ⟨rfl, l3, n3, rfl⟩) | (go_at_call 32; refine (refstate_p _ _ _ _ _ _ _ _ _ _ _ (by omega) (by omega) (by omega) (by omega)).mono ?_; rintro e w1 ⟨rfl, l4, n4, rfl⟩))
  all_goals exact bodyPost_ret (v := .tuple #[auV ⟨#[]⟩ ⟨#[]⟩ 0 0 0 0 0 0 0 0, .int .i64 0, .int .i64 c]) (by simp [results, Try.results34, go_sem]) rfl ⟨rfl, (by repeat (first | with_reducible exact Pushed.refl _ | with_reducible assumption | with_reducible refine Pushed.push ?_ _ | with_reducible refine Pushed.alloc ?_ _ | with_reducible refine Pushed.drewN ?_ _ | with_reducible refine Pushed.drew ?_))⟩
set_option maxHeartbeats 1000000 in
theorem rreverse_range (amount : Int) (hi : id.size ≤ maxLen) (hcu : cur.size ≤ maxLen) (HC : Hid (0 = openE (auCheck (identB id.data.toList 16) (curB cur.data.toList) ap rv cl ex 1 at_ un pa) 1)) (HK : Hid (0 = auCheck (identB id.data.toList 16) (curB cur.data.toList) ap rv cl ex 1 at_ un pa)) (ka : 1 ≤ ap ∧ ap ≤ 999999999999) (kr : 0 ≤ rv ∧ rv ≤ 999999999999) (kc : 0 ≤ cl ∧ cl ≤ 999999999999) (ke : 0 ≤ ex ∧ ex ≤ 999999999999) (kl : 0 ≤ ap - rv - cl - ex) (h : amount < 0 ∨ ap - rv - cl - ex < amount) :
    Calls Try.prog 34 #[auV id cur ap rv cl ex 1 at_ un pa, .int .i64 amount] w fun e w' => e = .returned (.tuple #[auV ⟨#[]⟩ ⟨#[]⟩ 0 0 0 0 0 0 0 0, .int .i64 0, .int .i64 4]) ∧ Pushed w w' := by
  have HW : Hid (false = inB amount 0 (ap - rv - cl - ex)) := inB_f (by omega)
  go_enter Try.func34, Try.ntmps34
  go_wp2_with (first | (go_at_call 41; refine (usable_any _ _ _ _ _ _ _ _ _ _ _ hi hcu HC).mono ?_; rintro e w1 ⟨rfl, l1, n1, rfl⟩) | (go_at_call 31; refine (within_is _ _ _ _ (by assumption)).mono ?_; rintro e w1 ⟨rfl, rfl⟩) | (go_at_call 14; refine (ropen_ok _ _ _ _ _ _ _ _ _ _ _ hi hcu HK ka kr kc ke kl).mono ?_; rintro e w1 ⟨rfl, l3, n3, rfl⟩) | (go_at_call 32; refine (refstate_p _ _ _ _ _ _ _ _ _ _ _ (by omega) (by omega) (by omega) (by omega)).mono ?_; rintro e w1 ⟨rfl, l4, n4, rfl⟩))
  all_goals exact bodyPost_ret (v := .tuple #[auV ⟨#[]⟩ ⟨#[]⟩ 0 0 0 0 0 0 0 0, .int .i64 0, .int .i64 4]) (by simp [results, Try.results34, go_sem]) rfl ⟨rfl, (by repeat (first | with_reducible exact Pushed.refl _ | with_reducible assumption | with_reducible refine Pushed.push ?_ _ | with_reducible refine Pushed.alloc ?_ _ | with_reducible refine Pushed.drewN ?_ _ | with_reducible refine Pushed.drew ?_))⟩
set_option maxHeartbeats 1000000 in
theorem rreverse_all (hi : id.size ≤ maxLen) (hcu : cur.size ≤ maxLen) (HC : Hid (0 = openE (auCheck (identB id.data.toList 16) (curB cur.data.toList) ap rv cl ex 1 at_ un pa) 1)) (HK : Hid (0 = auCheck (identB id.data.toList 16) (curB cur.data.toList) ap rv cl ex 1 at_ un pa)) (ka : 1 ≤ ap ∧ ap ≤ 999999999999) (kr : 0 ≤ rv ∧ rv ≤ 999999999999) (kc : 0 ≤ cl ∧ cl ≤ 999999999999) (ke : 0 ≤ ex ∧ ex ≤ 999999999999) (kl : 0 ≤ ap - rv - cl - ex) :
    Calls Try.prog 34 #[auV id cur ap rv cl ex 1 at_ un pa, .int .i64 0] w fun e w' => e = .returned (.tuple #[auV id cur ap (rv + (ap - rv - cl - ex)) cl ex (auState ap (rv + (ap - rv - cl - ex)) cl ex) at_ un pa, .int .i64 (ap - rv - cl - ex), .int .i64 0]) ∧ Pushed w w' := by
  have HW : Hid (true = inB 0 0 (ap - rv - cl - ex)) := inB_t (by omega)
  go_enter Try.func34, Try.ntmps34
  go_wp2_with (first | (go_at_call 41; refine (usable_any _ _ _ _ _ _ _ _ _ _ _ hi hcu HC).mono ?_; rintro e w1 ⟨rfl, l1, n1, rfl⟩) | (go_at_call 31; refine (within_is _ _ _ _ (by assumption)).mono ?_; rintro e w1 ⟨rfl, rfl⟩) | (go_at_call 14; refine (ropen_ok _ _ _ _ _ _ _ _ _ _ _ hi hcu HK ka kr kc ke kl).mono ?_; rintro e w1 ⟨rfl, l3, n3, rfl⟩) | (go_at_call 32; refine (refstate_p _ _ _ _ _ _ _ _ _ _ _ (by omega) (by omega) (by omega) (by omega)).mono ?_; rintro e w1 ⟨rfl, l4, n4, rfl⟩))
  all_goals exact bodyPost_ret (v := .tuple #[auV id cur ap (rv + (ap - rv - cl - ex)) cl ex (auState ap (rv + (ap - rv - cl - ex)) cl ex) at_ un pa, .int .i64 (ap - rv - cl - ex), .int .i64 0]) (by simp [results, Try.results34, go_sem]) rfl ⟨rfl, (by repeat (first | with_reducible exact Pushed.refl _ | with_reducible assumption | with_reducible refine Pushed.push ?_ _ | with_reducible refine Pushed.alloc ?_ _ | with_reducible refine Pushed.drewN ?_ _ | with_reducible refine Pushed.drew ?_))⟩
set_option maxHeartbeats 1000000 in
theorem rreverse_some (amount : Int) (hi : id.size ≤ maxLen) (hcu : cur.size ≤ maxLen) (HC : Hid (0 = openE (auCheck (identB id.data.toList 16) (curB cur.data.toList) ap rv cl ex 1 at_ un pa) 1)) (HK : Hid (0 = auCheck (identB id.data.toList 16) (curB cur.data.toList) ap rv cl ex 1 at_ un pa)) (ka : 1 ≤ ap ∧ ap ≤ 999999999999) (kr : 0 ≤ rv ∧ rv ≤ 999999999999) (kc : 0 ≤ cl ∧ cl ≤ 999999999999) (ke : 0 ≤ ex ∧ ex ≤ 999999999999) (kl : 0 ≤ ap - rv - cl - ex) (h : 1 ≤ amount) (h' : amount ≤ ap - rv - cl - ex) (h0 : (amount == 0) = false) :
    Calls Try.prog 34 #[auV id cur ap rv cl ex 1 at_ un pa, .int .i64 amount] w fun e w' => e = .returned (.tuple #[auV id cur ap (rv + amount) cl ex (auState ap (rv + amount) cl ex) at_ un pa, .int .i64 amount, .int .i64 0]) ∧ Pushed w w' := by
  have HW : Hid (true = inB amount 0 (ap - rv - cl - ex)) := inB_t (by omega)
  go_enter Try.func34, Try.ntmps34
  go_wp2_with (first | (go_at_call 41; refine (usable_any _ _ _ _ _ _ _ _ _ _ _ hi hcu HC).mono ?_; rintro e w1 ⟨rfl, l1, n1, rfl⟩) | (go_at_call 31; refine (within_is _ _ _ _ (by assumption)).mono ?_; rintro e w1 ⟨rfl, rfl⟩) | (go_at_call 14; refine (ropen_ok _ _ _ _ _ _ _ _ _ _ _ hi hcu HK ka kr kc ke kl).mono ?_; rintro e w1 ⟨rfl, l3, n3, rfl⟩) | (go_at_call 32; refine (refstate_p _ _ _ _ _ _ _ _ _ _ _ (by omega) (by omega) (by omega) (by omega)).mono ?_; rintro e w1 ⟨rfl, l4, n4, rfl⟩))
  all_goals exact bodyPost_ret (v := .tuple #[auV id cur ap (rv + amount) cl ex (auState ap (rv + amount) cl ex) at_ un pa, .int .i64 amount, .int .i64 0]) (by simp [results, Try.results34, go_sem]) rfl ⟨rfl, (by repeat (first | with_reducible exact Pushed.refl _ | with_reducible assumption | with_reducible refine Pushed.push ?_ _ | with_reducible refine Pushed.alloc ?_ _ | with_reducible refine Pushed.drewN ?_ _ | with_reducible refine Pushed.drew ?_))⟩
set_option maxHeartbeats 1000000 in
theorem rexpire_err (time : Int) {c : Int} (hi : id.size ≤ maxLen) (hcu : cur.size ≤ maxLen) (HC : Hid (c = openE (auCheck (identB id.data.toList 16) (curB cur.data.toList) ap rv cl ex st at_ un pa) st)) (h1 : (c != 0) = true) :
    Calls Try.prog 35 #[auV id cur ap rv cl ex st at_ un pa, .int .i64 time] w fun e w' => e = .returned (.tuple #[auV ⟨#[]⟩ ⟨#[]⟩ 0 0 0 0 0 0 0 0, .int .i64 0, .int .i64 c]) ∧ Pushed w w' := by
  go_enter Try.func35, Try.ntmps35
  go_wp2_with (first | (go_at_call 41; refine (usable_any _ _ _ _ _ _ _ _ _ _ _ hi hcu HC).mono ?_; rintro e w1 ⟨rfl, l1, n1, rfl⟩) | (go_at_call 31; refine (within_is _ _ _ _ (by assumption)).mono ?_; rintro e w1 ⟨rfl, rfl⟩) | (go_at_call 14; refine (ropen_ok _ _ _ _ _ _ _ _ _ _ _ hi hcu HK ka kr kc ke kl).mono ?_; rintro e w1 ⟨rfl, l3, n3, rfl⟩) | (go_at_call 32; refine (refstate_p _ _ _ _ _ _ _ _ _ _ _ (by omega) (by omega) (by omega) (by omega)).mono ?_; rintro e w1 ⟨rfl, l4, n4, rfl⟩))
  all_goals exact bodyPost_ret (v := .tuple #[auV ⟨#[]⟩ ⟨#[]⟩ 0 0 0 0 0 0 0 0, .int .i64 0, .int .i64 c]) (by simp [results, Try.results35, go_sem]) rfl ⟨rfl, (by repeat (first | with_reducible exact Pushed.refl _ | with_reducible assumption | with_reducible refine Pushed.push ?_ _ | with_reducible refine Pushed.alloc ?_ _ | with_reducible refine Pushed.drewN ?_ _ | with_reducible refine Pushed.drew ?_))⟩
set_option maxHeartbeats 1000000 in
theorem rexpire_time (time : Int) (hi : id.size ≤ maxLen) (hcu : cur.size ≤ maxLen) (HC : Hid (0 = openE (auCheck (identB id.data.toList 16) (curB cur.data.toList) ap rv cl ex 1 at_ un pa) 1)) (HK : Hid (0 = auCheck (identB id.data.toList 16) (curB cur.data.toList) ap rv cl ex 1 at_ un pa)) (ka : 1 ≤ ap ∧ ap ≤ 999999999999) (kr : 0 ≤ rv ∧ rv ≤ 999999999999) (kc : 0 ≤ cl ∧ cl ≤ 999999999999) (ke : 0 ≤ ex ∧ ex ≤ 999999999999) (kl : 0 ≤ ap - rv - cl - ex) (h : time < un) :
    Calls Try.prog 35 #[auV id cur ap rv cl ex 1 at_ un pa, .int .i64 time] w fun e w' => e = .returned (.tuple #[auV ⟨#[]⟩ ⟨#[]⟩ 0 0 0 0 0 0 0 0, .int .i64 0, .int .i64 14]) ∧ Pushed w w' := by
  go_enter Try.func35, Try.ntmps35
  go_wp2_with (first | (go_at_call 41; refine (usable_any _ _ _ _ _ _ _ _ _ _ _ hi hcu HC).mono ?_; rintro e w1 ⟨rfl, l1, n1, rfl⟩) | (go_at_call 31; refine (within_is _ _ _ _ (by assumption)).mono ?_; rintro e w1 ⟨rfl, rfl⟩) | (go_at_call 14; refine (ropen_ok _ _ _ _ _ _ _ _ _ _ _ hi hcu HK ka kr kc ke kl).mono ?_; rintro e w1 ⟨rfl, l3, n3, rfl⟩) | (go_at_call 32; refine (refstate_p _ _ _ _ _ _ _ _ _ _ _ (by omega) (by omega) (by omega) (by omega)).mono ?_; rintro e w1 ⟨rfl, l4, n4, rfl⟩))
  all_goals exact bodyPost_ret (v := .tuple #[auV ⟨#[]⟩ ⟨#[]⟩ 0 0 0 0 0 0 0 0, .int .i64 0, .int .i64 14]) (by simp [results, Try.results35, go_sem]) rfl ⟨rfl, (by repeat (first | with_reducible exact Pushed.refl _ | with_reducible assumption | with_reducible refine Pushed.push ?_ _ | with_reducible refine Pushed.alloc ?_ _ | with_reducible refine Pushed.drewN ?_ _ | with_reducible refine Pushed.drew ?_))⟩
set_option maxHeartbeats 1000000 in
theorem rexpire_ok (time : Int) (hi : id.size ≤ maxLen) (hcu : cur.size ≤ maxLen) (HC : Hid (0 = openE (auCheck (identB id.data.toList 16) (curB cur.data.toList) ap rv cl ex 1 at_ un pa) 1)) (HK : Hid (0 = auCheck (identB id.data.toList 16) (curB cur.data.toList) ap rv cl ex 1 at_ un pa)) (ka : 1 ≤ ap ∧ ap ≤ 999999999999) (kr : 0 ≤ rv ∧ rv ≤ 999999999999) (kc : 0 ≤ cl ∧ cl ≤ 999999999999) (ke : 0 ≤ ex ∧ ex ≤ 999999999999) (kl : 0 ≤ ap - rv - cl - ex) (h : un ≤ time) :
    Calls Try.prog 35 #[auV id cur ap rv cl ex 1 at_ un pa, .int .i64 time] w fun e w' => e = .returned (.tuple #[auV id cur ap rv cl (ex + (ap - rv - cl - ex)) (auState ap rv cl (ex + (ap - rv - cl - ex))) at_ un pa, .int .i64 (ap - rv - cl - ex), .int .i64 0]) ∧ Pushed w w' := by
  go_enter Try.func35, Try.ntmps35
  go_wp2_with (first | (go_at_call 41; refine (usable_any _ _ _ _ _ _ _ _ _ _ _ hi hcu HC).mono ?_; rintro e w1 ⟨rfl, l1, n1, rfl⟩) | (go_at_call 31; refine (within_is _ _ _ _ (by assumption)).mono ?_; rintro e w1 ⟨rfl, rfl⟩) | (go_at_call 14; refine (ropen_ok _ _ _ _ _ _ _ _ _ _ _ hi hcu HK ka kr kc ke kl).mono ?_; rintro e w1 ⟨rfl, l3, n3, rfl⟩) | (go_at_call 32; refine (refstate_p _ _ _ _ _ _ _ _ _ _ _ (by omega) (by omega) (by omega) (by omega)).mono ?_; rintro e w1 ⟨rfl, l4, n4, rfl⟩))
  all_goals exact bodyPost_ret (v := .tuple #[auV id cur ap rv cl (ex + (ap - rv - cl - ex)) (auState ap rv cl (ex + (ap - rv - cl - ex))) at_ un pa, .int .i64 (ap - rv - cl - ex), .int .i64 0]) (by simp [results, Try.results35, go_sem]) rfl ⟨rfl, (by repeat (first | with_reducible exact Pushed.refl _ | with_reducible assumption | with_reducible refine Pushed.push ?_ _ | with_reducible refine Pushed.alloc ?_ _ | with_reducible refine Pushed.drewN ?_ _ | with_reducible refine Pushed.drew ?_))⟩
end
end Go.Proofs.Ytmigodjkenhedaa

/-
  CONTRACTS of the specification's Clear; of its calls, all ways together; and of the law's own 'by'.
-/
import Derived.Test.YtmigodjkenhedaaAuth10
namespace Go.Proofs.Ytmigodjkenhedaa
open Go.RowKit
set_option linter.unusedVariables false
section
variable (id cur : ByteArray) (ap rv cl ex st at_ un pa : Int) (w : World)
set_option maxHeartbeats 1000000 in
theorem rclear_err (amount : Int) (fin : Bool) {c : Int} (hi : id.size ≤ maxLen) (hcu : cur.size ≤ maxLen) (HC : Hid (c = openE (auCheck (identB id.data.toList 16) (curB cur.data.toList) ap rv cl ex st at_ un pa) st)) (h1 : (c != 0) = true) :
    Calls Try.prog 36 #[auV id cur ap rv cl ex st at_ un pa, .int .i64 amount, .bool fin] w fun e w' => e = .returned (.tuple #[auV ⟨#[]⟩ ⟨#[]⟩ 0 0 0 0 0 0 0 0, .int .i64 0, .int .i64 0, .int .i64 c]) ∧ Pushed w w' := by
  go_enter Try.func36, Try.ntmps36
  go_wp2_with (first | (go_at_call 41; refine (usable_any _ _ _ _ _ _ _ _ _ _ _ hi hcu HC).mono ?_; rintro e w1 ⟨rfl, l1, n1, rfl⟩) | (go_at_call 31; refine (within_is _ _ _ _ (by assumption)).mono ?_; rintro e w1 ⟨rfl, rfl⟩) | (go_at_call 14; refine (ropen_ok _ _ _ _ _ _ _ _ _ _ _ hi hcu HK ka kr kc ke kl).mono ?_; rintro e w1 ⟨rfl, l3, n3, rfl⟩) | (go_at_call 32; refine (refstate_p _ _ _ _ _ _ _ _ _ _ _ (by omega) (by omega) (by omega) (by omega)).mono ?_; rintro e w1 ⟨rfl, l4, n4, rfl⟩))
  all_goals exact bodyPost_ret (v := .tuple #[auV ⟨#[]⟩ ⟨#[]⟩ 0 0 0 0 0 0 0 0, .int .i64 0, .int .i64 0, .int .i64 c]) (by simp [results, Try.results36, go_sem]) rfl ⟨rfl, (by repeat (first | with_reducible exact Pushed.refl _ | with_reducible assumption | with_reducible refine Pushed.push ?_ _ | with_reducible refine Pushed.alloc ?_ _ | with_reducible refine Pushed.drewN ?_ _ | with_reducible refine Pushed.drew ?_))⟩
set_option maxHeartbeats 1000000 in
theorem rclear_range (amount : Int) (fin : Bool) (hi : id.size ≤ maxLen) (hcu : cur.size ≤ maxLen) (HC : Hid (0 = openE (auCheck (identB id.data.toList 16) (curB cur.data.toList) ap rv cl ex 1 at_ un pa) 1)) (HK : Hid (0 = auCheck (identB id.data.toList 16) (curB cur.data.toList) ap rv cl ex 1 at_ un pa)) (ka : 1 ≤ ap ∧ ap ≤ 999999999999) (kr : 0 ≤ rv ∧ rv ≤ 999999999999) (kc : 0 ≤ cl ∧ cl ≤ 999999999999) (ke : 0 ≤ ex ∧ ex ≤ 999999999999) (kl : 0 ≤ ap - rv - cl - ex) (h : amount < 1 ∨ 999999999999 < amount) :
    Calls Try.prog 36 #[auV id cur ap rv cl ex 1 at_ un pa, .int .i64 amount, .bool fin] w fun e w' => e = .returned (.tuple #[auV ⟨#[]⟩ ⟨#[]⟩ 0 0 0 0 0 0 0 0, .int .i64 0, .int .i64 0, .int .i64 4]) ∧ Pushed w w' := by
  have HW : Hid (false = inB amount 1 999999999999) := inB_f (by omega)
  go_enter Try.func36, Try.ntmps36
  go_wp2_with (first | (go_at_call 41; refine (usable_any _ _ _ _ _ _ _ _ _ _ _ hi hcu HC).mono ?_; rintro e w1 ⟨rfl, l1, n1, rfl⟩) | (go_at_call 31; refine (within_is _ _ _ _ (by assumption)).mono ?_; rintro e w1 ⟨rfl, rfl⟩) | (go_at_call 14; refine (ropen_ok _ _ _ _ _ _ _ _ _ _ _ hi hcu HK ka kr kc ke kl).mono ?_; rintro e w1 ⟨rfl, l3, n3, rfl⟩) | (go_at_call 32; refine (refstate_p _ _ _ _ _ _ _ _ _ _ _ (by omega) (by omega) (by omega) (by omega)).mono ?_; rintro e w1 ⟨rfl, l4, n4, rfl⟩))
  all_goals exact bodyPost_ret (v := .tuple #[auV ⟨#[]⟩ ⟨#[]⟩ 0 0 0 0 0 0 0 0, .int .i64 0, .int .i64 0, .int .i64 4]) (by simp [results, Try.results36, go_sem]) rfl ⟨rfl, (by repeat (first | with_reducible exact Pushed.refl _ | with_reducible assumption | with_reducible refine Pushed.push ?_ _ | with_reducible refine Pushed.alloc ?_ _ | with_reducible refine Pushed.drewN ?_ _ | with_reducible refine Pushed.drew ?_))⟩
set_option maxHeartbeats 1000000 in
theorem rclear_limit (amount : Int) (fin : Bool) (hi : id.size ≤ maxLen) (hcu : cur.size ≤ maxLen) (HC : Hid (0 = openE (auCheck (identB id.data.toList 16) (curB cur.data.toList) ap rv cl ex 1 at_ un pa) 1)) (HK : Hid (0 = auCheck (identB id.data.toList 16) (curB cur.data.toList) ap rv cl ex 1 at_ un pa)) (ka : 1 ≤ ap ∧ ap ≤ 999999999999) (kr : 0 ≤ rv ∧ rv ≤ 999999999999) (kc : 0 ≤ cl ∧ cl ≤ 999999999999) (ke : 0 ≤ ex ∧ ex ≤ 999999999999) (kl : 0 ≤ ap - rv - cl - ex) (h : 1 ≤ amount) (h' : amount ≤ 999999999999) (hp : (pa == 8) = true) :
    Calls Try.prog 36 #[auV id cur ap rv cl ex 1 at_ un pa, .int .i64 amount, .bool fin] w fun e w' => e = .returned (.tuple #[auV ⟨#[]⟩ ⟨#[]⟩ 0 0 0 0 0 0 0 0, .int .i64 0, .int .i64 0, .int .i64 10]) ∧ Pushed w w' := by
  have HW : Hid (true = inB amount 1 999999999999) := inB_t (by omega)
  go_enter Try.func36, Try.ntmps36
  go_wp2_with (first | (go_at_call 41; refine (usable_any _ _ _ _ _ _ _ _ _ _ _ hi hcu HC).mono ?_; rintro e w1 ⟨rfl, l1, n1, rfl⟩) | (go_at_call 31; refine (within_is _ _ _ _ (by assumption)).mono ?_; rintro e w1 ⟨rfl, rfl⟩) | (go_at_call 14; refine (ropen_ok _ _ _ _ _ _ _ _ _ _ _ hi hcu HK ka kr kc ke kl).mono ?_; rintro e w1 ⟨rfl, l3, n3, rfl⟩) | (go_at_call 32; refine (refstate_p _ _ _ _ _ _ _ _ _ _ _ (by omega) (by omega) (by omega) (by omega)).mono ?_; rintro e w1 ⟨rfl, l4, n4, rfl⟩))
  all_goals exact bodyPost_ret (v := .tuple #[auV ⟨#[]⟩ ⟨#[]⟩ 0 0 0 0 0 0 0 0, .int .i64 0, .int .i64 0, .int .i64 10]) (by simp [results, Try.results36, go_sem]) rfl ⟨rfl, (by repeat (first | with_reducible exact Pushed.refl _ | with_reducible assumption | with_reducible refine Pushed.push ?_ _ | with_reducible refine Pushed.alloc ?_ _ | with_reducible refine Pushed.drewN ?_ _ | with_reducible refine Pushed.drew ?_))⟩
set_option maxHeartbeats 1000000 in
theorem rclear_part_a (amount : Int) (hi : id.size ≤ maxLen) (hcu : cur.size ≤ maxLen) (HC : Hid (0 = openE (auCheck (identB id.data.toList 16) (curB cur.data.toList) ap rv cl ex 1 at_ un pa) 1)) (HK : Hid (0 = auCheck (identB id.data.toList 16) (curB cur.data.toList) ap rv cl ex 1 at_ un pa)) (ka : 1 ≤ ap ∧ ap ≤ 999999999999) (kr : 0 ≤ rv ∧ rv ≤ 999999999999) (kc : 0 ≤ cl ∧ cl ≤ 999999999999) (ke : 0 ≤ ex ∧ ex ≤ 999999999999) (kl : 0 ≤ ap - rv - cl - ex) (h : 1 ≤ amount) (h' : amount ≤ 999999999999) (hp : 0 ≤ pa) (hp' : pa < 8) (hm : amount ≤ ap - rv - cl - ex) :
    Calls Try.prog 36 #[auV id cur ap rv cl ex 1 at_ un pa, .int .i64 amount, .bool false] w fun e w' => e = .returned (.tuple #[auV id cur ap rv (cl + amount) ex (auState ap rv (cl + amount) ex) at_ un (pa + 1), .int .i64 amount, .int .i64 0, .int .i64 0]) ∧ Pushed w w' := by
  have HW : Hid (true = inB amount 1 999999999999) := inB_t (by omega)
  have p8 : (pa == 8) = false := by simp; omega
  go_enter Try.func36, Try.ntmps36
  go_wp2_with (first | (go_at_call 41; refine (usable_any _ _ _ _ _ _ _ _ _ _ _ hi hcu HC).mono ?_; rintro e w1 ⟨rfl, l1, n1, rfl⟩) | (go_at_call 31; refine (within_is _ _ _ _ (by assumption)).mono ?_; rintro e w1 ⟨rfl, rfl⟩) | (go_at_call 14; refine (ropen_ok _ _ _ _ _ _ _ _ _ _ _ hi hcu HK ka kr kc ke kl).mono ?_; rintro e w1 ⟨rfl, l3, n3, rfl⟩) | (go_at_call 32; refine (refstate_p _ _ _ _ _ _ _ _ _ _ _ (by omega) (by omega) (by omega) (by omega)).mono ?_; rintro e w1 ⟨rfl, l4, n4, rfl⟩))
  all_goals exact bodyPost_ret (v := .tuple #[auV id cur ap rv (cl + amount) ex (auState ap rv (cl + amount) ex) at_ un (pa + 1), .int .i64 amount, .int .i64 0, .int .i64 0]) (by simp [results, Try.results36, go_sem]) rfl ⟨rfl, (by repeat (first | with_reducible exact Pushed.refl _ | with_reducible assumption | with_reducible refine Pushed.push ?_ _ | with_reducible refine Pushed.alloc ?_ _ | with_reducible refine Pushed.drewN ?_ _ | with_reducible refine Pushed.drew ?_))⟩
set_option maxHeartbeats 1000000 in
theorem rclear_last0_a (amount : Int) (hi : id.size ≤ maxLen) (hcu : cur.size ≤ maxLen) (HC : Hid (0 = openE (auCheck (identB id.data.toList 16) (curB cur.data.toList) ap rv cl ex 1 at_ un pa) 1)) (HK : Hid (0 = auCheck (identB id.data.toList 16) (curB cur.data.toList) ap rv cl ex 1 at_ un pa)) (ka : 1 ≤ ap ∧ ap ≤ 999999999999) (kr : 0 ≤ rv ∧ rv ≤ 999999999999) (kc : 0 ≤ cl ∧ cl ≤ 999999999999) (ke : 0 ≤ ex ∧ ex ≤ 999999999999) (kl : 0 ≤ ap - rv - cl - ex) (h : 1 ≤ amount) (h' : amount ≤ 999999999999) (hp : 0 ≤ pa) (hp' : pa < 8) (hm : amount ≤ ap - rv - cl - ex) :
    Calls Try.prog 36 #[auV id cur ap rv cl ex 1 at_ un pa, .int .i64 amount, .bool true] w fun e w' => e = .returned (.tuple #[auV id cur ap (rv + (ap - rv - cl - ex - amount)) (cl + amount) ex (auState ap (rv + (ap - rv - cl - ex - amount)) (cl + amount) ex) at_ un (pa + 1), .int .i64 amount, .int .i64 (ap - rv - cl - ex - amount), .int .i64 0]) ∧ Pushed w w' := by
  have HW : Hid (true = inB amount 1 999999999999) := inB_t (by omega)
  have p8 : (pa == 8) = false := by simp; omega
  go_enter Try.func36, Try.ntmps36
  go_wp2_with (first | (go_at_call 41; refine (usable_any _ _ _ _ _ _ _ _ _ _ _ hi hcu HC).mono ?_; rintro e w1 ⟨rfl, l1, n1, rfl⟩) | (go_at_call 31; refine (within_is _ _ _ _ (by assumption)).mono ?_; rintro e w1 ⟨rfl, rfl⟩) | (go_at_call 14; refine (ropen_ok _ _ _ _ _ _ _ _ _ _ _ hi hcu HK ka kr kc ke kl).mono ?_; rintro e w1 ⟨rfl, l3, n3, rfl⟩) | (go_at_call 32; refine (refstate_p _ _ _ _ _ _ _ _ _ _ _ (by omega) (by omega) (by omega) (by omega)).mono ?_; rintro e w1 ⟨rfl, l4, n4, rfl⟩))
  all_goals exact bodyPost_ret (v := .tuple #[auV id cur ap (rv + (ap - rv - cl - ex - amount)) (cl + amount) ex (auState ap (rv + (ap - rv - cl - ex - amount)) (cl + amount) ex) at_ un (pa + 1), .int .i64 amount, .int .i64 (ap - rv - cl - ex - amount), .int .i64 0]) (by simp [results, Try.results36, go_sem]) rfl ⟨rfl, (by repeat (first | with_reducible exact Pushed.refl _ | with_reducible assumption | with_reducible refine Pushed.push ?_ _ | with_reducible refine Pushed.alloc ?_ _ | with_reducible refine Pushed.drewN ?_ _ | with_reducible refine Pushed.drew ?_))⟩
theorem rclear_last_a (amount : Int) (hi : id.size ≤ maxLen) (hcu : cur.size ≤ maxLen) (HC : Hid (0 = openE (auCheck (identB id.data.toList 16) (curB cur.data.toList) ap rv cl ex 1 at_ un pa) 1)) (HK : Hid (0 = auCheck (identB id.data.toList 16) (curB cur.data.toList) ap rv cl ex 1 at_ un pa)) (ka : 1 ≤ ap ∧ ap ≤ 999999999999) (kr : 0 ≤ rv ∧ rv ≤ 999999999999) (kc : 0 ≤ cl ∧ cl ≤ 999999999999) (ke : 0 ≤ ex ∧ ex ≤ 999999999999) (kl : 0 ≤ ap - rv - cl - ex) (h : 1 ≤ amount) (h' : amount ≤ 999999999999) (hp : 0 ≤ pa) (hp' : pa < 8) (hm : amount ≤ ap - rv - cl - ex) :
    Calls Try.prog 36 #[auV id cur ap rv cl ex 1 at_ un pa, .int .i64 amount, .bool true] w fun e w' => e = .returned (.tuple #[auV id cur ap (rv + (ap - rv - (cl + amount) - ex)) (cl + amount) ex (auState ap (rv + (ap - rv - (cl + amount) - ex)) (cl + amount) ex) at_ un (pa + 1), .int .i64 amount, .int .i64 (ap - rv - (cl + amount) - ex), .int .i64 0]) ∧ Pushed w w' := by
  have hh := rclear_last0_a id cur ap rv cl ex at_ un pa w amount hi hcu HC HK ka kr kc ke kl h h' hp hp' hm
  rw [show (ap - rv - cl - ex - amount) = (ap - rv - (cl + amount) - ex) by omega] at hh
  exact hh
set_option maxHeartbeats 1000000 in
theorem rclear_part_b (amount : Int) (hi : id.size ≤ maxLen) (hcu : cur.size ≤ maxLen) (HC : Hid (0 = openE (auCheck (identB id.data.toList 16) (curB cur.data.toList) ap rv cl ex 1 at_ un pa) 1)) (HK : Hid (0 = auCheck (identB id.data.toList 16) (curB cur.data.toList) ap rv cl ex 1 at_ un pa)) (ka : 1 ≤ ap ∧ ap ≤ 999999999999) (kr : 0 ≤ rv ∧ rv ≤ 999999999999) (kc : 0 ≤ cl ∧ cl ≤ 999999999999) (ke : 0 ≤ ex ∧ ex ≤ 999999999999) (kl : 0 ≤ ap - rv - cl - ex) (h : 1 ≤ amount) (h' : amount ≤ 999999999999) (hp : 0 ≤ pa) (hp' : pa < 8) (hm : ap - rv - cl - ex < amount) :
    Calls Try.prog 36 #[auV id cur ap rv cl ex 1 at_ un pa, .int .i64 amount, .bool false] w fun e w' => e = .returned (.tuple #[auV id cur ap rv (cl + (ap - rv - cl - ex)) ex (auState ap rv (cl + (ap - rv - cl - ex)) ex) at_ un (pa + 1), .int .i64 (ap - rv - cl - ex), .int .i64 0, .int .i64 0]) ∧ Pushed w w' := by
  have HW : Hid (true = inB amount 1 999999999999) := inB_t (by omega)
  have p8 : (pa == 8) = false := by simp; omega
  go_enter Try.func36, Try.ntmps36
  go_wp2_with (first | (go_at_call 41; refine (usable_any _ _ _ _ _ _ _ _ _ _ _ hi hcu HC).mono ?_; rintro e w1 ⟨rfl, l1, n1, rfl⟩) | (go_at_call 31; refine (within_is _ _ _ _ (by assumption)).mono ?_; rintro e w1 ⟨rfl, rfl⟩) | (go_at_call 14; refine (ropen_ok _ _ _ _ _ _ _ _ _ _ _ hi hcu HK ka kr kc ke kl).mono ?_; rintro e w1 ⟨rfl, l3, n3, rfl⟩) | (go_at_call 32; refine (refstate_p _ _ _ _ _ _ _ _ _ _ _ (by omega) (by omega) (by omega) (by omega)).mono ?_; rintro e w1 ⟨rfl, l4, n4, rfl⟩))
  all_goals exact bodyPost_ret (v := .tuple #[auV id cur ap rv (cl + (ap - rv - cl - ex)) ex (auState ap rv (cl + (ap - rv - cl - ex)) ex) at_ un (pa + 1), .int .i64 (ap - rv - cl - ex), .int .i64 0, .int .i64 0]) (by simp [results, Try.results36, go_sem]) rfl ⟨rfl, (by repeat (first | with_reducible exact Pushed.refl _ | with_reducible assumption | with_reducible refine Pushed.push ?_ _ | with_reducible refine Pushed.alloc ?_ _ | with_reducible refine Pushed.drewN ?_ _ | with_reducible refine Pushed.drew ?_))⟩
set_option maxHeartbeats 1000000 in
theorem rclear_last0_b (amount : Int) (hi : id.size ≤ maxLen) (hcu : cur.size ≤ maxLen) (HC : Hid (0 = openE (auCheck (identB id.data.toList 16) (curB cur.data.toList) ap rv cl ex 1 at_ un pa) 1)) (HK : Hid (0 = auCheck (identB id.data.toList 16) (curB cur.data.toList) ap rv cl ex 1 at_ un pa)) (ka : 1 ≤ ap ∧ ap ≤ 999999999999) (kr : 0 ≤ rv ∧ rv ≤ 999999999999) (kc : 0 ≤ cl ∧ cl ≤ 999999999999) (ke : 0 ≤ ex ∧ ex ≤ 999999999999) (kl : 0 ≤ ap - rv - cl - ex) (h : 1 ≤ amount) (h' : amount ≤ 999999999999) (hp : 0 ≤ pa) (hp' : pa < 8) (hm : ap - rv - cl - ex < amount) :
    Calls Try.prog 36 #[auV id cur ap rv cl ex 1 at_ un pa, .int .i64 amount, .bool true] w fun e w' => e = .returned (.tuple #[auV id cur ap (rv + (ap - rv - cl - ex - (ap - rv - cl - ex))) (cl + (ap - rv - cl - ex)) ex (auState ap (rv + (ap - rv - cl - ex - (ap - rv - cl - ex))) (cl + (ap - rv - cl - ex)) ex) at_ un (pa + 1), .int .i64 (ap - rv - cl - ex), .int .i64 (ap - rv - cl - ex - (ap - rv - cl - ex)), .int .i64 0]) ∧ Pushed w w' := by
  have HW : Hid (true = inB amount 1 999999999999) := inB_t (by omega)
  have p8 : (pa == 8) = false := by simp; omega
  go_enter Try.func36, Try.ntmps36
  go_wp2_with (first | (go_at_call 41; refine (usable_any _ _ _ _ _ _ _ _ _ _ _ hi hcu HC).mono ?_; rintro e w1 ⟨rfl, l1, n1, rfl⟩) | (go_at_call 31; refine (within_is _ _ _ _ (by assumption)).mono ?_; rintro e w1 ⟨rfl, rfl⟩) | (go_at_call 14; refine (ropen_ok _ _ _ _ _ _ _ _ _ _ _ hi hcu HK ka kr kc ke kl).mono ?_; rintro e w1 ⟨rfl, l3, n3, rfl⟩) | (go_at_call 32; refine (refstate_p _ _ _ _ _ _ _ _ _ _ _ (by omega) (by omega) (by omega) (by omega)).mono ?_; rintro e w1 ⟨rfl, l4, n4, rfl⟩))
  all_goals exact bodyPost_ret (v := .tuple #[auV id cur ap (rv + (ap - rv - cl - ex - (ap - rv - cl - ex))) (cl + (ap - rv - cl - ex)) ex (auState ap (rv + (ap - rv - cl - ex - (ap - rv - cl - ex))) (cl + (ap - rv - cl - ex)) ex) at_ un (pa + 1), .int .i64 (ap - rv - cl - ex), .int .i64 (ap - rv - cl - ex - (ap - rv - cl - ex)), .int .i64 0]) (by simp [results, Try.results36, go_sem]) rfl ⟨rfl, (by repeat (first | with_reducible exact Pushed.refl _ | with_reducible assumption | with_reducible refine Pushed.push ?_ _ | with_reducible refine Pushed.alloc ?_ _ | with_reducible refine Pushed.drewN ?_ _ | with_reducible refine Pushed.drew ?_))⟩
theorem rclear_last_b (amount : Int) (hi : id.size ≤ maxLen) (hcu : cur.size ≤ maxLen) (HC : Hid (0 = openE (auCheck (identB id.data.toList 16) (curB cur.data.toList) ap rv cl ex 1 at_ un pa) 1)) (HK : Hid (0 = auCheck (identB id.data.toList 16) (curB cur.data.toList) ap rv cl ex 1 at_ un pa)) (ka : 1 ≤ ap ∧ ap ≤ 999999999999) (kr : 0 ≤ rv ∧ rv ≤ 999999999999) (kc : 0 ≤ cl ∧ cl ≤ 999999999999) (ke : 0 ≤ ex ∧ ex ≤ 999999999999) (kl : 0 ≤ ap - rv - cl - ex) (h : 1 ≤ amount) (h' : amount ≤ 999999999999) (hp : 0 ≤ pa) (hp' : pa < 8) (hm : ap - rv - cl - ex < amount) :
    Calls Try.prog 36 #[auV id cur ap rv cl ex 1 at_ un pa, .int .i64 amount, .bool true] w fun e w' => e = .returned (.tuple #[auV id cur ap (rv + (ap - rv - (cl + (ap - rv - cl - ex)) - ex)) (cl + (ap - rv - cl - ex)) ex (auState ap (rv + (ap - rv - (cl + (ap - rv - cl - ex)) - ex)) (cl + (ap - rv - cl - ex)) ex) at_ un (pa + 1), .int .i64 (ap - rv - cl - ex), .int .i64 (ap - rv - (cl + (ap - rv - cl - ex)) - ex), .int .i64 0]) ∧ Pushed w w' := by
  have hh := rclear_last0_b id cur ap rv cl ex at_ un pa w amount hi hcu HC HK ka kr kc ke kl h h' hp hp' hm
  rw [show (ap - rv - cl - ex - (ap - rv - cl - ex)) = (ap - rv - (cl + (ap - rv - cl - ex)) - ex) by omega] at hh
  exact hh
theorem rraise_is {c : Int} {r : AuR} (amount til : Int) (hi : id.size ≤ maxLen) (hcu : cur.size ≤ maxLen) (HC : Hid (c = openE (auCheck (identB id.data.toList 16) (curB cur.data.toList) ap rv cl ex st at_ un pa) st)) (HR : Hid (r = raiseR c id cur ap rv cl ex st at_ un pa amount til)) :
    Calls Try.prog 33 #[auV id cur ap rv cl ex st at_ un pa, .int .i64 amount, .int .i64 til] w fun e w' => e = .returned (.tuple #[r.v, .int .i64 r.err]) ∧ Pushed w w' := by
  obtain rfl := HR.out
  clear HR
  by_cases h0 : c = 0
  · subst h0
    obtain ⟨k0, rfl⟩ := openE_zero HC.out.symm
    obtain ⟨ka, kr, kc, ke, kl, kt, kp, ks, ko⟩ := (auCheck_zero.1 k0).2.2
    by_cases g1 : amount < 1 ∨ 999999999999 - ap < amount
    · have e : raiseR 0 id cur ap rv cl ex 1 at_ un pa amount til = .bad 4 := by unfold raiseR; rw [if_neg (by omega), if_pos g1]
      rw [e]; exact rraise_range id cur ap rv cl ex at_ un pa w amount til hi hcu HC (Lib.hid k0.symm) ka kr kc ke kl g1
    by_cases g2 : til < un ∨ 1099511627776 < til
    · have e : raiseR 0 id cur ap rv cl ex 1 at_ un pa amount til = .bad 14 := by unfold raiseR; rw [if_neg (by omega), if_neg g1, if_pos g2]
      rw [e]; exact rraise_time id cur ap rv cl ex at_ un pa w amount til hi hcu HC (Lib.hid k0.symm) ka kr kc ke kl (by omega) (by omega) g2
    have e : raiseR 0 id cur ap rv cl ex 1 at_ un pa amount til = ⟨id, cur, ap + amount, rv, cl, ex, 1, at_, til, pa, 0, 0, 0⟩ := by unfold raiseR; rw [if_neg (by omega), if_neg g1, if_neg g2]
    rw [e]; exact rraise_ok id cur ap rv cl ex at_ un pa w amount til hi hcu HC (Lib.hid k0.symm) ka kr kc ke kl (by omega) (by omega) (by omega) (by omega)
  · have h1 : (c != 0) = true := by simp [h0]
    have e : raiseR c id cur ap rv cl ex st at_ un pa amount til = .bad c := by unfold raiseR; rw [if_pos h0]
    rw [e]
    exact rraise_err id cur ap rv cl ex st at_ un pa w amount til hi hcu HC h1
theorem rreverse_is {c : Int} {r : AuR} (amount : Int) (hi : id.size ≤ maxLen) (hcu : cur.size ≤ maxLen) (HC : Hid (c = openE (auCheck (identB id.data.toList 16) (curB cur.data.toList) ap rv cl ex st at_ un pa) st)) (HR : Hid (r = reverseR c id cur ap rv cl ex st at_ un pa amount)) :
    Calls Try.prog 34 #[auV id cur ap rv cl ex st at_ un pa, .int .i64 amount] w fun e w' => e = .returned (.tuple #[r.v, .int .i64 r.n2, .int .i64 r.err]) ∧ Pushed w w' := by
  obtain rfl := HR.out
  clear HR
  by_cases h0 : c = 0
  · subst h0
    obtain ⟨k0, rfl⟩ := openE_zero HC.out.symm
    obtain ⟨ka, kr, kc, ke, kl, kt, kp, ks, ko⟩ := (auCheck_zero.1 k0).2.2
    by_cases g1 : amount < 0 ∨ ap - rv - cl - ex < amount
    · have e : reverseR 0 id cur ap rv cl ex 1 at_ un pa amount = .bad 4 := by unfold reverseR; rw [if_neg (by omega), if_pos g1]
      rw [e]; exact rreverse_range id cur ap rv cl ex at_ un pa w amount hi hcu HC (Lib.hid k0.symm) ka kr kc ke kl g1
    by_cases g2 : amount = 0
    · subst g2
      have e : reverseR 0 id cur ap rv cl ex 1 at_ un pa 0 = ⟨id, cur, ap, rv + (ap - rv - cl - ex), cl, ex, auState ap (rv + (ap - rv - cl - ex)) cl ex, at_, un, pa, 0, ap - rv - cl - ex, 0⟩ := by unfold reverseR; rw [if_neg (by omega), if_neg g1, if_pos rfl]
      rw [e]; exact rreverse_all id cur ap rv cl ex at_ un pa w hi hcu HC (Lib.hid k0.symm) ka kr kc ke kl
    have e : reverseR 0 id cur ap rv cl ex 1 at_ un pa amount = ⟨id, cur, ap, rv + amount, cl, ex, auState ap (rv + amount) cl ex, at_, un, pa, 0, amount, 0⟩ := by unfold reverseR; rw [if_neg (by omega), if_neg g1, if_neg g2]
    rw [e]; exact rreverse_some id cur ap rv cl ex at_ un pa w amount hi hcu HC (Lib.hid k0.symm) ka kr kc ke kl (by omega) (by omega) (by simp [g2])
  · have h1 : (c != 0) = true := by simp [h0]
    have e : reverseR c id cur ap rv cl ex st at_ un pa amount = .bad c := by unfold reverseR; rw [if_pos h0]
    rw [e]
    exact rreverse_err id cur ap rv cl ex st at_ un pa w amount hi hcu HC h1
theorem rexpire_is {c : Int} {r : AuR} (time : Int) (hi : id.size ≤ maxLen) (hcu : cur.size ≤ maxLen) (HC : Hid (c = openE (auCheck (identB id.data.toList 16) (curB cur.data.toList) ap rv cl ex st at_ un pa) st)) (HR : Hid (r = expireR c id cur ap rv cl ex st at_ un pa time)) :
    Calls Try.prog 35 #[auV id cur ap rv cl ex st at_ un pa, .int .i64 time] w fun e w' => e = .returned (.tuple #[r.v, .int .i64 r.n2, .int .i64 r.err]) ∧ Pushed w w' := by
  obtain rfl := HR.out
  clear HR
  by_cases h0 : c = 0
  · subst h0
    obtain ⟨k0, rfl⟩ := openE_zero HC.out.symm
    obtain ⟨ka, kr, kc, ke, kl, kt, kp, ks, ko⟩ := (auCheck_zero.1 k0).2.2
    by_cases g1 : time < un
    · have e : expireR 0 id cur ap rv cl ex 1 at_ un pa time = .bad 14 := by unfold expireR; rw [if_neg (by omega), if_pos g1]
      rw [e]; exact rexpire_time id cur ap rv cl ex at_ un pa w time hi hcu HC (Lib.hid k0.symm) ka kr kc ke kl g1
    have e : expireR 0 id cur ap rv cl ex 1 at_ un pa time = ⟨id, cur, ap, rv, cl, ex + (ap - rv - cl - ex), auState ap rv cl (ex + (ap - rv - cl - ex)), at_, un, pa, 0, ap - rv - cl - ex, 0⟩ := by unfold expireR; rw [if_neg (by omega), if_neg g1]
    rw [e]; exact rexpire_ok id cur ap rv cl ex at_ un pa w time hi hcu HC (Lib.hid k0.symm) ka kr kc ke kl (by omega)
  · have h1 : (c != 0) = true := by simp [h0]
    have e : expireR c id cur ap rv cl ex st at_ un pa time = .bad c := by unfold expireR; rw [if_pos h0]
    rw [e]
    exact rexpire_err id cur ap rv cl ex st at_ un pa w time hi hcu HC h1
theorem rclear_is {c : Int} {r : AuR} (amount : Int) (fin : Bool) (hi : id.size ≤ maxLen) (hcu : cur.size ≤ maxLen) (HC : Hid (c = openE (auCheck (identB id.data.toList 16) (curB cur.data.toList) ap rv cl ex st at_ un pa) st)) (HR : Hid (r = clearR c id cur ap rv cl ex st at_ un pa amount fin)) :
    Calls Try.prog 36 #[auV id cur ap rv cl ex st at_ un pa, .int .i64 amount, .bool fin] w fun e w' => e = .returned (.tuple #[r.v, .int .i64 r.n1, .int .i64 r.n2, .int .i64 r.err]) ∧ Pushed w w' := by
  obtain rfl := HR.out
  clear HR
  by_cases h0 : c = 0
  · subst h0
    obtain ⟨k0, rfl⟩ := openE_zero HC.out.symm
    obtain ⟨ka, kr, kc, ke, kl, kt, kp, ks, ko⟩ := (auCheck_zero.1 k0).2.2
    by_cases g1 : amount < 1 ∨ 999999999999 < amount
    · have e : clearR 0 id cur ap rv cl ex 1 at_ un pa amount fin = .bad 4 := by unfold clearR; rw [if_neg (by omega), if_pos g1]
      rw [e]; exact rclear_range id cur ap rv cl ex at_ un pa w amount fin hi hcu HC (Lib.hid k0.symm) ka kr kc ke kl g1
    by_cases g2 : 8 ≤ pa
    · have e : clearR 0 id cur ap rv cl ex 1 at_ un pa amount fin = .bad 10 := by unfold clearR; rw [if_neg (by omega), if_neg g1, if_pos g2]
      rw [e]; exact rclear_limit id cur ap rv cl ex at_ un pa w amount fin hi hcu HC (Lib.hid k0.symm) ka kr kc ke kl (by omega) (by omega) (by simp; omega)
    by_cases g3 : amount ≤ ap - rv - cl - ex
    · have eu : usedN ap rv cl ex amount = amount := by unfold usedN; omega
      cases fin
      · have e : clearR 0 id cur ap rv cl ex 1 at_ un pa amount false = ⟨id, cur, ap, rv, cl + amount, ex, auState ap rv (cl + amount) ex, at_, un, pa + 1, amount, 0, 0⟩ := by unfold clearR; rw [if_neg (by omega), if_neg g1, if_neg g2, eu]; rfl
        rw [e]; exact rclear_part_a id cur ap rv cl ex at_ un pa w amount hi hcu HC (Lib.hid k0.symm) ka kr kc ke kl (by omega) (by omega) (by omega) (by omega) g3
      · have e : clearR 0 id cur ap rv cl ex 1 at_ un pa amount true = ⟨id, cur, ap, rv + (ap - rv - (cl + amount) - ex), cl + amount, ex, auState ap (rv + (ap - rv - (cl + amount) - ex)) (cl + amount) ex, at_, un, pa + 1, amount, ap - rv - (cl + amount) - ex, 0⟩ := by unfold clearR; rw [if_neg (by omega), if_neg g1, if_neg g2, eu]; rfl
        rw [e]; exact rclear_last_a id cur ap rv cl ex at_ un pa w amount hi hcu HC (Lib.hid k0.symm) ka kr kc ke kl (by omega) (by omega) (by omega) (by omega) g3
    · have eu : usedN ap rv cl ex amount = ap - rv - cl - ex := by unfold usedN; omega
      cases fin
      · have e : clearR 0 id cur ap rv cl ex 1 at_ un pa amount false = ⟨id, cur, ap, rv, cl + (ap - rv - cl - ex), ex, auState ap rv (cl + (ap - rv - cl - ex)) ex, at_, un, pa + 1, ap - rv - cl - ex, 0, 0⟩ := by unfold clearR; rw [if_neg (by omega), if_neg g1, if_neg g2, eu]; rfl
        rw [e]; exact rclear_part_b id cur ap rv cl ex at_ un pa w amount hi hcu HC (Lib.hid k0.symm) ka kr kc ke kl (by omega) (by omega) (by omega) (by omega) (by omega)
      · have e : clearR 0 id cur ap rv cl ex 1 at_ un pa amount true = ⟨id, cur, ap, rv + (ap - rv - (cl + (ap - rv - cl - ex)) - ex), cl + (ap - rv - cl - ex), ex, auState ap (rv + (ap - rv - (cl + (ap - rv - cl - ex)) - ex)) (cl + (ap - rv - cl - ex)) ex, at_, un, pa + 1, ap - rv - cl - ex, ap - rv - (cl + (ap - rv - cl - ex)) - ex, 0⟩ := by unfold clearR; rw [if_neg (by omega), if_neg g1, if_neg g2, eu]; rfl
        rw [e]; exact rclear_last_b id cur ap rv cl ex at_ un pa w amount hi hcu HC (Lib.hid k0.symm) ka kr kc ke kl (by omega) (by omega) (by omega) (by omega) (by omega)
  · have h1 : (c != 0) = true := by simp [h0]
    have e : clearR c id cur ap rv cl ex st at_ un pa amount fin = .bad c := by unfold clearR; rw [if_pos h0]
    rw [e]
    exact rclear_err id cur ap rv cl ex st at_ un pa w amount fin hi hcu HC h1
end
set_option maxHeartbeats 1000000 in
theorem by_is (id cur : ByteArray) (ap rv cl ex st at_ un pa : Int) (w : World) {c : Int} {r : AuR} (kd am t : Int) (fin : Bool) (hi : id.size ≤ maxLen) (hcu : cur.size ≤ maxLen) (hkd : 0 ≤ kd ∧ kd ≤ 255) (HC : Hid (c = openE (auCheck (identB id.data.toList 16) (curB cur.data.toList) ap rv cl ex st at_ un pa) st)) (HR : Hid (r = stepR c id cur ap rv cl ex st at_ un pa kd am t fin)) :
    Calls Try.prog 15 #[auV id cur ap rv cl ex st at_ un pa, .agg #[.int .u8 kd, .int .i64 am, .int .i64 t, .bool fin]] w fun e w' => e = .returned (.tuple #[r.v, .int .i64 r.n1, .int .i64 r.n2, .int .i64 r.err]) ∧ Pushed w w' := by
  have hk : 0 ≤ kd % 4 ∧ kd % 4 < 4 := by omega
  by_cases g1 : kd % 4 = 1
  · have HR1 : Hid (r = raiseR c id cur ap rv cl ex st at_ un pa am t) := by rw [HR.out]; unfold stepR; rw [if_pos g1]; exact rfl
    have b1 : ((kd % 4) == 1) = true := by simp [g1]
    clear g1 HR
    go_enter Try.func15, Try.ntmps15
    go_wp2_with (go_at_call 33; refine (rraise_is _ _ _ _ _ _ _ _ _ _ _ _ _ hi hcu HC HR1).mono ?_; rintro e w1 ⟨rfl, l1, n1, rfl⟩)
    exact bodyPost_ret (v := .tuple #[r.v, .int .i64 0, .int .i64 0, .int .i64 r.err]) (by simp [results, Try.results15, go_sem]) rfl ⟨by rw [raise_n1 HR1.out, raise_n2 HR1.out], (by repeat (first | with_reducible exact Pushed.refl _ | with_reducible assumption | with_reducible refine Pushed.push ?_ _ | with_reducible refine Pushed.alloc ?_ _ | with_reducible refine Pushed.drewN ?_ _ | with_reducible refine Pushed.drew ?_))⟩
  have b1 : ((kd % 4) == 1) = false := by simp [g1]
  by_cases g2 : kd % 4 = 2
  · have HR1 : Hid (r = reverseR c id cur ap rv cl ex st at_ un pa am) := by rw [HR.out]; unfold stepR; rw [if_neg g1, if_pos g2]; exact rfl
    have b2 : ((kd % 4) == 2) = true := by simp [g2]
    clear g1 g2 HR
    go_enter Try.func15, Try.ntmps15
    go_wp2_with (go_at_call 34; refine (rreverse_is _ _ _ _ _ _ _ _ _ _ _ _ hi hcu HC HR1).mono ?_; rintro e w1 ⟨rfl, l1, n1, rfl⟩)
    exact bodyPost_ret (v := .tuple #[r.v, .int .i64 0, .int .i64 r.n2, .int .i64 r.err]) (by simp [results, Try.results15, go_sem]) rfl ⟨by rw [reverse_n1 HR1.out], (by repeat (first | with_reducible exact Pushed.refl _ | with_reducible assumption | with_reducible refine Pushed.push ?_ _ | with_reducible refine Pushed.alloc ?_ _ | with_reducible refine Pushed.drewN ?_ _ | with_reducible refine Pushed.drew ?_))⟩
  have b2 : ((kd % 4) == 2) = false := by simp [g2]
  by_cases g3 : kd % 4 = 3
  · have HR1 : Hid (r = expireR c id cur ap rv cl ex st at_ un pa t) := by rw [HR.out]; unfold stepR; rw [if_neg g1, if_neg g2, if_pos g3]; exact rfl
    have b3 : ((kd % 4) == 3) = true := by simp [g3]
    clear g1 g2 g3 HR
    go_enter Try.func15, Try.ntmps15
    go_wp2_with (go_at_call 35; refine (rexpire_is _ _ _ _ _ _ _ _ _ _ _ _ hi hcu HC HR1).mono ?_; rintro e w1 ⟨rfl, l1, n1, rfl⟩)
    exact bodyPost_ret (v := .tuple #[r.v, .int .i64 0, .int .i64 r.n2, .int .i64 r.err]) (by simp [results, Try.results15, go_sem]) rfl ⟨by rw [expire_n1 HR1.out], (by repeat (first | with_reducible exact Pushed.refl _ | with_reducible assumption | with_reducible refine Pushed.push ?_ _ | with_reducible refine Pushed.alloc ?_ _ | with_reducible refine Pushed.drewN ?_ _ | with_reducible refine Pushed.drew ?_))⟩
  have b3 : ((kd % 4) == 3) = false := by simp [g3]
  have HR1 : Hid (r = clearR c id cur ap rv cl ex st at_ un pa am fin) := by rw [HR.out]; unfold stepR; rw [if_neg g1, if_neg g2, if_neg g3]; exact rfl
  clear g1 g2 g3 HR
  go_enter Try.func15, Try.ntmps15
  go_wp2_with (go_at_call 36; refine (rclear_is _ _ _ _ _ _ _ _ _ _ _ _ _ hi hcu HC HR1).mono ?_; rintro e w1 ⟨rfl, l1, n1, rfl⟩)
  exact bodyPost_ret (v := .tuple #[r.v, .int .i64 r.n1, .int .i64 r.n2, .int .i64 r.err]) (by simp [results, Try.results15, go_sem]) rfl ⟨rfl, (by repeat (first | with_reducible exact Pushed.refl _ | with_reducible assumption | with_reducible refine Pushed.push ?_ _ | with_reducible refine Pushed.alloc ?_ _ | with_reducible refine Pushed.drewN ?_ _ | with_reducible refine Pushed.drew ?_))⟩
end Go.Proofs.Ytmigodjkenhedaa

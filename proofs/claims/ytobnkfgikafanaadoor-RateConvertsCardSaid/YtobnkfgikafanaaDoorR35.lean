/-
  CONTRACTS of rates: the program's Scale by a positive fraction, over what Div64 and valid answer.
-/
import Derived.Test.YtobnkfgikafanaaDoorR34
namespace Go.Proofs.YtobnkfgikafanaaDoor
open Go.RowKit
set_option linter.unusedVariables false
set_option linter.unusedSimpArgs false
set_option maxRecDepth 20000 in
set_option maxHeartbeats 6400000 in
theorem scale_over (m : Int) (A num den hi lo : Nat) (mode : Int) (c : ByteArray) (hc : c.size ≤ 1000000) (h0 : Hid (mchkR m c = 0)) (n0 : 1 ≤ num) (n1 : num ≤ 1099511627776) (d0 : 1 ≤ den) (d1 : den ≤ 1099511627776) (m0 : 1 ≤ mode) (m1 : mode ≤ 4) (G1 : Hid (∀ w, Calls Tryd.prog 46 #[.int .i64 m] w fun x w' => x = .returned (.int .u64 (A : Int)) ∧ Pushed w w')) (MM : Hid (∀ w, Calls Tryd.prog 45 #[.int .u64 (A : Int), .int .u64 (num : Int)] w fun x w' => x = .returned (.tuple #[.int .u64 (hi : Int), .int .u64 (lo : Int)]) ∧ Pushed w w')) (hh : den ≤ hi) (w : World) :
    Calls Tryd.prog 35 #[.agg #[.int .i64 m, .string c], .int .i64 (num : Int), .int .i64 (den : Int), .int .i64 mode] w fun x w' => x = .returned (.tuple #[.agg #[.int .i64 0, .string ⟨#[]⟩], .int .i64 4]) ∧ Pushed w w' := by
  have CK := Lib.hid (fun w => mchk_any m c hc h0 w)
  have G2 := Lib.hid (fun w => mag_pos num (by omega) w)
  have k1 : ¬ (den : Int) < 1 := by omega
  have k2 : ¬ (1099511627776 : Int) < (den : Int) := by omega
  have k3 : ¬ (num : Int) < -1099511627776 := by omega
  have k4 : ¬ (1099511627776 : Int) < (num : Int) := by omega
  have k5 : ¬ mode < 1 := by omega
  have k6 : ¬ 4 < mode := by omega
  have kd0 : 0 ≤ (den : Int) := by omega
  have kd1 : (den : Int) ≤ 1099511627776 := by omega
  have k7 : (den : Int) ≤ (hi : Int) := by omega
  clear hh
  clear n0 n1 d0 d1 m0 m1 h0 hc
  generalize (den : Int) = den at *
  generalize (num : Int) = num at *
  go_enter Tryd.func35, Tryd.ntmps35
  go_wp2_with fail
  go_at_call 34
  with_reducible refine (CK.out _).mono ?_
  rintro x w1 ⟨rfl, l0, n0, rfl⟩
  go_wp2_with fail
  go_at_call 46
  with_reducible refine (G1.out _).mono ?_
  rintro x w1 ⟨rfl, l1, n1, rfl⟩
  go_wp2_with fail
  go_at_call 46
  with_reducible refine (G2.out _).mono ?_
  rintro x w1 ⟨rfl, l2, n2, rfl⟩
  go_wp2_with fail
  go_at_call 45
  with_reducible refine (MM.out _).mono ?_
  rintro x w1 ⟨rfl, l3, n3, rfl⟩
  go_wp2
  exact bodyPost_ret (v := .tuple #[.agg #[.int .i64 0, .string ⟨#[]⟩], .int .i64 4]) (by simp [results, Tryd.results35, go_sem]) rfl ⟨rfl, (by repeat (first | with_reducible exact Pushed.refl _ | with_reducible assumption | with_reducible refine Pushed.push ?_ _ | with_reducible refine Pushed.alloc ?_ _ | with_reducible refine Pushed.drewN ?_ _ | with_reducible refine Pushed.drew ?_))⟩
set_option maxRecDepth 20000 in
set_option maxHeartbeats 6400000 in
theorem scale_qbig (m : Int) (A num den hi lo : Nat) (mode : Int) (c : ByteArray) (hc : c.size ≤ 1000000) (h0 : Hid (mchkR m c = 0)) (n0 : 1 ≤ num) (n1 : num ≤ 1099511627776) (d0 : 1 ≤ den) (d1 : den ≤ 1099511627776) (m0 : 1 ≤ mode) (m1 : mode ≤ 4) (G1 : Hid (∀ w, Calls Tryd.prog 46 #[.int .i64 m] w fun x w' => x = .returned (.int .u64 (A : Int)) ∧ Pushed w w')) (MM : Hid (∀ w, Calls Tryd.prog 45 #[.int .u64 (A : Int), .int .u64 (num : Int)] w fun x w' => x = .returned (.tuple #[.int .u64 (hi : Int), .int .u64 (lo : Int)]) ∧ Pushed w w')) (q r : Nat) (hh : ¬ den ≤ hi) (DV : Hid (∀ w, Calls Tryd.prog 47 #[.int .u64 (hi : Int), .int .u64 (lo : Int), .int .u64 (den : Int)] w fun x w' => x = .returned (.tuple #[.int .u64 (q : Int), .int .u64 (r : Int)]) ∧ Pushed w w')) (hq : 4503599627370496 < q) (w : World) :
    Calls Tryd.prog 35 #[.agg #[.int .i64 m, .string c], .int .i64 (num : Int), .int .i64 (den : Int), .int .i64 mode] w fun x w' => x = .returned (.tuple #[.agg #[.int .i64 0, .string ⟨#[]⟩], .int .i64 4]) ∧ Pushed w w' := by
  have CK := Lib.hid (fun w => mchk_any m c hc h0 w)
  have G2 := Lib.hid (fun w => mag_pos num (by omega) w)
  have k1 : ¬ (den : Int) < 1 := by omega
  have k2 : ¬ (1099511627776 : Int) < (den : Int) := by omega
  have k3 : ¬ (num : Int) < -1099511627776 := by omega
  have k4 : ¬ (1099511627776 : Int) < (num : Int) := by omega
  have k5 : ¬ mode < 1 := by omega
  have k6 : ¬ 4 < mode := by omega
  have kd0 : 0 ≤ (den : Int) := by omega
  have kd1 : (den : Int) ≤ 1099511627776 := by omega
  have k7 : ¬ (den : Int) ≤ (hi : Int) := by omega
  have k8 : (4503599627370496 : Int) < (q : Int) := by omega
  clear hh hq
  clear n0 n1 d0 d1 m0 m1 h0 hc
  generalize (den : Int) = den at *
  generalize (num : Int) = num at *
  go_enter Tryd.func35, Tryd.ntmps35
  go_wp2_with fail
  go_at_call 34
  with_reducible refine (CK.out _).mono ?_
  rintro x w1 ⟨rfl, l0, n0, rfl⟩
  go_wp2_with fail
  go_at_call 46
  with_reducible refine (G1.out _).mono ?_
  rintro x w1 ⟨rfl, l1, n1, rfl⟩
  go_wp2_with fail
  go_at_call 46
  with_reducible refine (G2.out _).mono ?_
  rintro x w1 ⟨rfl, l2, n2, rfl⟩
  go_wp2_with fail
  go_at_call 45
  with_reducible refine (MM.out _).mono ?_
  rintro x w1 ⟨rfl, l3, n3, rfl⟩
  go_wp2_with fail
  go_at_call 47
  with_reducible refine (DV.out _).mono ?_
  rintro x w1 ⟨rfl, l4, n4, rfl⟩
  go_wp2
  exact bodyPost_ret (v := .tuple #[.agg #[.int .i64 0, .string ⟨#[]⟩], .int .i64 4]) (by simp [results, Tryd.results35, go_sem]) rfl ⟨rfl, (by repeat (first | with_reducible exact Pushed.refl _ | with_reducible assumption | with_reducible refine Pushed.push ?_ _ | with_reducible refine Pushed.alloc ?_ _ | with_reducible refine Pushed.drewN ?_ _ | with_reducible refine Pushed.drew ?_))⟩
set_option maxRecDepth 20000 in
set_option maxHeartbeats 6400000 in
theorem scale_p0 (m : Int) (A num den hi lo : Nat) (mode : Int) (c : ByteArray) (hc : c.size ≤ 1000000) (h0 : Hid (mchkR m c = 0)) (n0 : 1 ≤ num) (n1 : num ≤ 1099511627776) (d0 : 1 ≤ den) (d1 : den ≤ 1099511627776) (m0 : 1 ≤ mode) (m1 : mode ≤ 4) (G1 : Hid (∀ w, Calls Tryd.prog 46 #[.int .i64 m] w fun x w' => x = .returned (.int .u64 (A : Int)) ∧ Pushed w w')) (MM : Hid (∀ w, Calls Tryd.prog 45 #[.int .u64 (A : Int), .int .u64 (num : Int)] w fun x w' => x = .returned (.tuple #[.int .u64 (hi : Int), .int .u64 (lo : Int)]) ∧ Pushed w w')) (q r : Nat) (hh : ¬ den ≤ hi) (DV : Hid (∀ w, Calls Tryd.prog 47 #[.int .u64 (hi : Int), .int .u64 (lo : Int), .int .u64 (den : Int)] w fun x w' => x = .returned (.tuple #[.int .u64 (q : Int), .int .u64 (r : Int)]) ∧ Pushed w w')) (hq : q ≤ 4503599627370496) (hr : r < den) (hm : 0 ≤ m) (hb : upB q r den mode = false) (v e : Int) (u : ByteArray) (VD : Hid (∀ w, Calls Tryd.prog 49 #[.int .i64 (q : Int), .string c] w fun x w' => x = .returned (.tuple #[.agg #[.int .i64 v, .string u], .int .i64 e]) ∧ Pushed w w')) (w : World) :
    Calls Tryd.prog 35 #[.agg #[.int .i64 m, .string c], .int .i64 (num : Int), .int .i64 (den : Int), .int .i64 mode] w fun x w' => x = .returned (.tuple #[.agg #[.int .i64 v, .string u], .int .i64 e]) ∧ Pushed w w' := by
  have CK := Lib.hid (fun w => mchk_any m c hc h0 w)
  have G2 := Lib.hid (fun w => mag_pos num (by omega) w)
  have UP := Lib.hid (fun w => up_any q r den mode (by omega) d1 (Lib.hid hb) w)
  have k1 : ¬ (den : Int) < 1 := by omega
  have k2 : ¬ (1099511627776 : Int) < (den : Int) := by omega
  have k3 : ¬ (num : Int) < -1099511627776 := by omega
  have k4 : ¬ (1099511627776 : Int) < (num : Int) := by omega
  have k5 : ¬ mode < 1 := by omega
  have k6 : ¬ 4 < mode := by omega
  have kd0 : 0 ≤ (den : Int) := by omega
  have kd1 : (den : Int) ≤ 1099511627776 := by omega
  have k7 : ¬ (den : Int) ≤ (hi : Int) := by omega
  have k8 : ¬ (4503599627370496 : Int) < (q : Int) := by omega
  have hq0 : 0 ≤ (q : Int) := by omega
  have k9 : ¬ (num : Int) < 0 := by omega
  clear hh hq hr hb
  clear n0 n1 d0 d1 m0 m1 h0 hc
  generalize (den : Int) = den at *
  generalize (num : Int) = num at *
  generalize (q : Int) = q at *
  generalize (r : Int) = r at *
  have dm : decide (m < 0) = false := decide_eq_false (by omega)
  have dn : decide (num < 0) = false := decide_eq_false k9
  have kne : (decide (m < 0) != decide (num < 0)) = false := by rw [dm, dn]; rfl
  clear hm
  go_enter Tryd.func35, Tryd.ntmps35
  go_wp2_with fail
  go_at_call 34
  with_reducible refine (CK.out _).mono ?_
  rintro x w1 ⟨rfl, l0, n0, rfl⟩
  go_wp2_with fail
  go_at_call 46
  with_reducible refine (G1.out _).mono ?_
  rintro x w1 ⟨rfl, l1, n1, rfl⟩
  go_wp2_with fail
  go_at_call 46
  with_reducible refine (G2.out _).mono ?_
  rintro x w1 ⟨rfl, l2, n2, rfl⟩
  go_wp2_with fail
  go_at_call 45
  with_reducible refine (MM.out _).mono ?_
  rintro x w1 ⟨rfl, l3, n3, rfl⟩
  go_wp2_with fail
  go_at_call 47
  with_reducible refine (DV.out _).mono ?_
  rintro x w1 ⟨rfl, l4, n4, rfl⟩
  go_wp2_with fail
  go_at_call 48
  with_reducible refine (UP.out _).mono ?_
  rintro x w1 ⟨rfl, l5, n5, rfl⟩
  go_wp2_with fail
  go_at_call 49
  with_reducible refine (VD.out _).mono ?_
  rintro x w1 ⟨rfl, l6, n6, rfl⟩
  go_wp2
  exact bodyPost_ret (v := .tuple #[.agg #[.int .i64 v, .string u], .int .i64 e]) (by simp [results, Tryd.results35, go_sem]) rfl ⟨rfl, (by repeat (first | with_reducible exact Pushed.refl _ | with_reducible assumption | with_reducible refine Pushed.push ?_ _ | with_reducible refine Pushed.alloc ?_ _ | with_reducible refine Pushed.drewN ?_ _ | with_reducible refine Pushed.drew ?_))⟩
set_option maxRecDepth 20000 in
set_option maxHeartbeats 6400000 in
theorem scale_p1 (m : Int) (A num den hi lo : Nat) (mode : Int) (c : ByteArray) (hc : c.size ≤ 1000000) (h0 : Hid (mchkR m c = 0)) (n0 : 1 ≤ num) (n1 : num ≤ 1099511627776) (d0 : 1 ≤ den) (d1 : den ≤ 1099511627776) (m0 : 1 ≤ mode) (m1 : mode ≤ 4) (G1 : Hid (∀ w, Calls Tryd.prog 46 #[.int .i64 m] w fun x w' => x = .returned (.int .u64 (A : Int)) ∧ Pushed w w')) (MM : Hid (∀ w, Calls Tryd.prog 45 #[.int .u64 (A : Int), .int .u64 (num : Int)] w fun x w' => x = .returned (.tuple #[.int .u64 (hi : Int), .int .u64 (lo : Int)]) ∧ Pushed w w')) (q r : Nat) (hh : ¬ den ≤ hi) (DV : Hid (∀ w, Calls Tryd.prog 47 #[.int .u64 (hi : Int), .int .u64 (lo : Int), .int .u64 (den : Int)] w fun x w' => x = .returned (.tuple #[.int .u64 (q : Int), .int .u64 (r : Int)]) ∧ Pushed w w')) (hq : q ≤ 4503599627370496) (hr : r < den) (hm : 0 ≤ m) (hb : upB q r den mode = true) (v e : Int) (u : ByteArray) (VD : Hid (∀ w, Calls Tryd.prog 49 #[.int .i64 ((q : Int) + 1), .string c] w fun x w' => x = .returned (.tuple #[.agg #[.int .i64 v, .string u], .int .i64 e]) ∧ Pushed w w')) (w : World) :
    Calls Tryd.prog 35 #[.agg #[.int .i64 m, .string c], .int .i64 (num : Int), .int .i64 (den : Int), .int .i64 mode] w fun x w' => x = .returned (.tuple #[.agg #[.int .i64 v, .string u], .int .i64 e]) ∧ Pushed w w' := by
  have CK := Lib.hid (fun w => mchk_any m c hc h0 w)
  have G2 := Lib.hid (fun w => mag_pos num (by omega) w)
  have UP := Lib.hid (fun w => up_any q r den mode (by omega) d1 (Lib.hid hb) w)
  have k1 : ¬ (den : Int) < 1 := by omega
  have k2 : ¬ (1099511627776 : Int) < (den : Int) := by omega
  have k3 : ¬ (num : Int) < -1099511627776 := by omega
  have k4 : ¬ (1099511627776 : Int) < (num : Int) := by omega
  have k5 : ¬ mode < 1 := by omega
  have k6 : ¬ 4 < mode := by omega
  have kd0 : 0 ≤ (den : Int) := by omega
  have kd1 : (den : Int) ≤ 1099511627776 := by omega
  have k7 : ¬ (den : Int) ≤ (hi : Int) := by omega
  have k8 : ¬ (4503599627370496 : Int) < (q : Int) := by omega
  have hq0 : 0 ≤ (q : Int) := by omega
  have k9 : ¬ (num : Int) < 0 := by omega
  clear hh hq hr hb
  clear n0 n1 d0 d1 m0 m1 h0 hc
  generalize (den : Int) = den at *
  generalize (num : Int) = num at *
  generalize (q : Int) = q at *
  generalize (r : Int) = r at *
  have dm : decide (m < 0) = false := decide_eq_false (by omega)
  have dn : decide (num < 0) = false := decide_eq_false k9
  have kne : (decide (m < 0) != decide (num < 0)) = false := by rw [dm, dn]; rfl
  clear hm
  go_enter Tryd.func35, Tryd.ntmps35
  go_wp2_with fail
  go_at_call 34
  with_reducible refine (CK.out _).mono ?_
  rintro x w1 ⟨rfl, l0, n0, rfl⟩
  go_wp2_with fail
  go_at_call 46
  with_reducible refine (G1.out _).mono ?_
  rintro x w1 ⟨rfl, l1, n1, rfl⟩
  go_wp2_with fail
  go_at_call 46
  with_reducible refine (G2.out _).mono ?_
  rintro x w1 ⟨rfl, l2, n2, rfl⟩
  go_wp2_with fail
  go_at_call 45
  with_reducible refine (MM.out _).mono ?_
  rintro x w1 ⟨rfl, l3, n3, rfl⟩
  go_wp2_with fail
  go_at_call 47
  with_reducible refine (DV.out _).mono ?_
  rintro x w1 ⟨rfl, l4, n4, rfl⟩
  go_wp2_with fail
  go_at_call 48
  with_reducible refine (UP.out _).mono ?_
  rintro x w1 ⟨rfl, l5, n5, rfl⟩
  go_wp2_with fail
  go_at_call 49
  with_reducible refine (VD.out _).mono ?_
  rintro x w1 ⟨rfl, l6, n6, rfl⟩
  go_wp2
  exact bodyPost_ret (v := .tuple #[.agg #[.int .i64 v, .string u], .int .i64 e]) (by simp [results, Tryd.results35, go_sem]) rfl ⟨rfl, (by repeat (first | with_reducible exact Pushed.refl _ | with_reducible assumption | with_reducible refine Pushed.push ?_ _ | with_reducible refine Pushed.alloc ?_ _ | with_reducible refine Pushed.drewN ?_ _ | with_reducible refine Pushed.drew ?_))⟩
set_option maxRecDepth 20000 in
set_option maxHeartbeats 6400000 in
theorem scale_n0 (m : Int) (A num den hi lo : Nat) (mode : Int) (c : ByteArray) (hc : c.size ≤ 1000000) (h0 : Hid (mchkR m c = 0)) (n0 : 1 ≤ num) (n1 : num ≤ 1099511627776) (d0 : 1 ≤ den) (d1 : den ≤ 1099511627776) (m0 : 1 ≤ mode) (m1 : mode ≤ 4) (G1 : Hid (∀ w, Calls Tryd.prog 46 #[.int .i64 m] w fun x w' => x = .returned (.int .u64 (A : Int)) ∧ Pushed w w')) (MM : Hid (∀ w, Calls Tryd.prog 45 #[.int .u64 (A : Int), .int .u64 (num : Int)] w fun x w' => x = .returned (.tuple #[.int .u64 (hi : Int), .int .u64 (lo : Int)]) ∧ Pushed w w')) (q r : Nat) (hh : ¬ den ≤ hi) (DV : Hid (∀ w, Calls Tryd.prog 47 #[.int .u64 (hi : Int), .int .u64 (lo : Int), .int .u64 (den : Int)] w fun x w' => x = .returned (.tuple #[.int .u64 (q : Int), .int .u64 (r : Int)]) ∧ Pushed w w')) (hq : q ≤ 4503599627370496) (hr : r < den) (hm : m < 0) (hb : upB q r den mode = false) (v e : Int) (u : ByteArray) (VD : Hid (∀ w, Calls Tryd.prog 49 #[.int .i64 (-(q : Int)), .string c] w fun x w' => x = .returned (.tuple #[.agg #[.int .i64 v, .string u], .int .i64 e]) ∧ Pushed w w')) (w : World) :
    Calls Tryd.prog 35 #[.agg #[.int .i64 m, .string c], .int .i64 (num : Int), .int .i64 (den : Int), .int .i64 mode] w fun x w' => x = .returned (.tuple #[.agg #[.int .i64 v, .string u], .int .i64 e]) ∧ Pushed w w' := by
  have CK := Lib.hid (fun w => mchk_any m c hc h0 w)
  have G2 := Lib.hid (fun w => mag_pos num (by omega) w)
  have UP := Lib.hid (fun w => up_any q r den mode (by omega) d1 (Lib.hid hb) w)
  have k1 : ¬ (den : Int) < 1 := by omega
  have k2 : ¬ (1099511627776 : Int) < (den : Int) := by omega
  have k3 : ¬ (num : Int) < -1099511627776 := by omega
  have k4 : ¬ (1099511627776 : Int) < (num : Int) := by omega
  have k5 : ¬ mode < 1 := by omega
  have k6 : ¬ 4 < mode := by omega
  have kd0 : 0 ≤ (den : Int) := by omega
  have kd1 : (den : Int) ≤ 1099511627776 := by omega
  have k7 : ¬ (den : Int) ≤ (hi : Int) := by omega
  have k8 : ¬ (4503599627370496 : Int) < (q : Int) := by omega
  have hq0 : 0 ≤ (q : Int) := by omega
  have k9 : ¬ (num : Int) < 0 := by omega
  clear hh hq hr hb
  clear n0 n1 d0 d1 m0 m1 h0 hc
  generalize (den : Int) = den at *
  generalize (num : Int) = num at *
  generalize (q : Int) = q at *
  generalize (r : Int) = r at *
  have dm : decide (m < 0) = true := decide_eq_true hm
  have dn : decide (num < 0) = false := decide_eq_false k9
  have kne : (decide (m < 0) != decide (num < 0)) = true := by rw [dm, dn]; rfl
  clear hm
  go_enter Tryd.func35, Tryd.ntmps35
  go_wp2_with fail
  go_at_call 34
  with_reducible refine (CK.out _).mono ?_
  rintro x w1 ⟨rfl, l0, n0, rfl⟩
  go_wp2_with fail
  go_at_call 46
  with_reducible refine (G1.out _).mono ?_
  rintro x w1 ⟨rfl, l1, n1, rfl⟩
  go_wp2_with fail
  go_at_call 46
  with_reducible refine (G2.out _).mono ?_
  rintro x w1 ⟨rfl, l2, n2, rfl⟩
  go_wp2_with fail
  go_at_call 45
  with_reducible refine (MM.out _).mono ?_
  rintro x w1 ⟨rfl, l3, n3, rfl⟩
  go_wp2_with fail
  go_at_call 47
  with_reducible refine (DV.out _).mono ?_
  rintro x w1 ⟨rfl, l4, n4, rfl⟩
  go_wp2_with fail
  go_at_call 48
  with_reducible refine (UP.out _).mono ?_
  rintro x w1 ⟨rfl, l5, n5, rfl⟩
  go_wp2_with fail
  go_at_call 49
  with_reducible refine (VD.out _).mono ?_
  rintro x w1 ⟨rfl, l6, n6, rfl⟩
  go_wp2
  exact bodyPost_ret (v := .tuple #[.agg #[.int .i64 v, .string u], .int .i64 e]) (by simp [results, Tryd.results35, go_sem]) rfl ⟨rfl, (by repeat (first | with_reducible exact Pushed.refl _ | with_reducible assumption | with_reducible refine Pushed.push ?_ _ | with_reducible refine Pushed.alloc ?_ _ | with_reducible refine Pushed.drewN ?_ _ | with_reducible refine Pushed.drew ?_))⟩
set_option maxRecDepth 20000 in
set_option maxHeartbeats 6400000 in
theorem scale_n1 (m : Int) (A num den hi lo : Nat) (mode : Int) (c : ByteArray) (hc : c.size ≤ 1000000) (h0 : Hid (mchkR m c = 0)) (n0 : 1 ≤ num) (n1 : num ≤ 1099511627776) (d0 : 1 ≤ den) (d1 : den ≤ 1099511627776) (m0 : 1 ≤ mode) (m1 : mode ≤ 4) (G1 : Hid (∀ w, Calls Tryd.prog 46 #[.int .i64 m] w fun x w' => x = .returned (.int .u64 (A : Int)) ∧ Pushed w w')) (MM : Hid (∀ w, Calls Tryd.prog 45 #[.int .u64 (A : Int), .int .u64 (num : Int)] w fun x w' => x = .returned (.tuple #[.int .u64 (hi : Int), .int .u64 (lo : Int)]) ∧ Pushed w w')) (q r : Nat) (hh : ¬ den ≤ hi) (DV : Hid (∀ w, Calls Tryd.prog 47 #[.int .u64 (hi : Int), .int .u64 (lo : Int), .int .u64 (den : Int)] w fun x w' => x = .returned (.tuple #[.int .u64 (q : Int), .int .u64 (r : Int)]) ∧ Pushed w w')) (hq : q ≤ 4503599627370496) (hr : r < den) (hm : m < 0) (hb : upB q r den mode = true) (v e : Int) (u : ByteArray) (VD : Hid (∀ w, Calls Tryd.prog 49 #[.int .i64 (-((q : Int) + 1)), .string c] w fun x w' => x = .returned (.tuple #[.agg #[.int .i64 v, .string u], .int .i64 e]) ∧ Pushed w w')) (w : World) :
    Calls Tryd.prog 35 #[.agg #[.int .i64 m, .string c], .int .i64 (num : Int), .int .i64 (den : Int), .int .i64 mode] w fun x w' => x = .returned (.tuple #[.agg #[.int .i64 v, .string u], .int .i64 e]) ∧ Pushed w w' := by
  have CK := Lib.hid (fun w => mchk_any m c hc h0 w)
  have G2 := Lib.hid (fun w => mag_pos num (by omega) w)
  have UP := Lib.hid (fun w => up_any q r den mode (by omega) d1 (Lib.hid hb) w)
  have k1 : ¬ (den : Int) < 1 := by omega
  have k2 : ¬ (1099511627776 : Int) < (den : Int) := by omega
  have k3 : ¬ (num : Int) < -1099511627776 := by omega
  have k4 : ¬ (1099511627776 : Int) < (num : Int) := by omega
  have k5 : ¬ mode < 1 := by omega
  have k6 : ¬ 4 < mode := by omega
  have kd0 : 0 ≤ (den : Int) := by omega
  have kd1 : (den : Int) ≤ 1099511627776 := by omega
  have k7 : ¬ (den : Int) ≤ (hi : Int) := by omega
  have k8 : ¬ (4503599627370496 : Int) < (q : Int) := by omega
  have hq0 : 0 ≤ (q : Int) := by omega
  have k9 : ¬ (num : Int) < 0 := by omega
  clear hh hq hr hb
  clear n0 n1 d0 d1 m0 m1 h0 hc
  generalize (den : Int) = den at *
  generalize (num : Int) = num at *
  generalize (q : Int) = q at *
  generalize (r : Int) = r at *
  have dm : decide (m < 0) = true := decide_eq_true hm
  have dn : decide (num < 0) = false := decide_eq_false k9
  have kne : (decide (m < 0) != decide (num < 0)) = true := by rw [dm, dn]; rfl
  clear hm
  go_enter Tryd.func35, Tryd.ntmps35
  go_wp2_with fail
  go_at_call 34
  with_reducible refine (CK.out _).mono ?_
  rintro x w1 ⟨rfl, l0, n0, rfl⟩
  go_wp2_with fail
  go_at_call 46
  with_reducible refine (G1.out _).mono ?_
  rintro x w1 ⟨rfl, l1, n1, rfl⟩
  go_wp2_with fail
  go_at_call 46
  with_reducible refine (G2.out _).mono ?_
  rintro x w1 ⟨rfl, l2, n2, rfl⟩
  go_wp2_with fail
  go_at_call 45
  with_reducible refine (MM.out _).mono ?_
  rintro x w1 ⟨rfl, l3, n3, rfl⟩
  go_wp2_with fail
  go_at_call 47
  with_reducible refine (DV.out _).mono ?_
  rintro x w1 ⟨rfl, l4, n4, rfl⟩
  go_wp2_with fail
  go_at_call 48
  with_reducible refine (UP.out _).mono ?_
  rintro x w1 ⟨rfl, l5, n5, rfl⟩
  go_wp2_with fail
  go_at_call 49
  with_reducible refine (VD.out _).mono ?_
  rintro x w1 ⟨rfl, l6, n6, rfl⟩
  go_wp2
  exact bodyPost_ret (v := .tuple #[.agg #[.int .i64 v, .string u], .int .i64 e]) (by simp [results, Tryd.results35, go_sem]) rfl ⟨rfl, (by repeat (first | with_reducible exact Pushed.refl _ | with_reducible assumption | with_reducible refine Pushed.push ?_ _ | with_reducible refine Pushed.alloc ?_ _ | with_reducible refine Pushed.drewN ?_ _ | with_reducible refine Pushed.drew ?_))⟩
end Go.Proofs.YtobnkfgikafanaaDoor

/-
  CONTRACTS of amounts: the program's Scale by any fraction, over what Div64 and valid answer.
-/
import Derived.Test.YtompkkanckejjaaDoorM2
namespace Go.Proofs.YtompkkanckejjaaDoor
open Go.RowKit
set_option linter.unusedVariables false
set_option linter.unusedSimpArgs false
set_option maxRecDepth 20000 in
set_option maxHeartbeats 6400000 in
theorem scale_over (m num : Int) (A B den hi lo : Nat) (mode : Int) (c : ByteArray) (hc : c.size ≤ 9223372036854775807) (h0 : Hid (mchkR m c = 0)) (n0 : -1099511627776 ≤ num) (n1 : num ≤ 1099511627776) (d0 : 1 ≤ den) (d1 : den ≤ 1099511627776) (m0 : 1 ≤ mode) (m1 : mode ≤ 4) (G1 : Hid (∀ w, Calls Tryd.prog 37 #[.int .i64 m] w fun x w' => x = .returned (.int .u64 (A : Int)) ∧ Pushed w w')) (G2 : Hid (∀ w, Calls Tryd.prog 37 #[.int .i64 num] w fun x w' => x = .returned (.int .u64 (B : Int)) ∧ Pushed w w')) (MM : Hid (∀ w, Calls Tryd.prog 36 #[.int .u64 (A : Int), .int .u64 (B : Int)] w fun x w' => x = .returned (.tuple #[.int .u64 (hi : Int), .int .u64 (lo : Int)]) ∧ Pushed w w')) (hh : den ≤ hi) (w : World) :
    Calls Tryd.prog 19 #[.agg #[.int .i64 m, .string c], .int .i64 num, .int .i64 (den : Int), .int .i64 mode] w fun x w' => x = .returned (.tuple #[.agg #[.int .i64 0, .string ⟨#[]⟩], .int .i64 4]) ∧ Pushed w w' := by
  have CK := Lib.hid (fun w => mchk_any m c hc h0 w)
  have k1 : ¬ (den : Int) < 1 := by omega
  have k2 : ¬ (1099511627776 : Int) < (den : Int) := by omega
  have k3 : ¬ num < -1099511627776 := by omega
  have k4 : ¬ (1099511627776 : Int) < num := by omega
  have k5 : ¬ mode < 1 := by omega
  have k6 : ¬ 4 < mode := by omega
  have kd0 : 0 ≤ (den : Int) := by omega
  have kd1 : (den : Int) ≤ 1099511627776 := by omega
  have k7 : (den : Int) ≤ (hi : Int) := by omega
  clear hh
  clear n0 n1 d0 d1 m0 m1 h0 hc
  generalize (den : Int) = den at *
  go_enter Tryd.func19, Tryd.ntmps19
  go_wp2_with fail
  go_at_call 16
  with_reducible refine (CK.out _).mono ?_
  rintro x w1 ⟨rfl, l0, n0, rfl⟩
  go_wp2_with fail
  go_at_call 37
  with_reducible refine (G1.out _).mono ?_
  rintro x w1 ⟨rfl, l1, n1, rfl⟩
  go_wp2_with fail
  go_at_call 37
  with_reducible refine (G2.out _).mono ?_
  rintro x w1 ⟨rfl, l2, n2, rfl⟩
  go_wp2_with fail
  go_at_call 36
  with_reducible refine (MM.out _).mono ?_
  rintro x w1 ⟨rfl, l3, n3, rfl⟩
  go_wp2
  exact bodyPost_ret (v := .tuple #[.agg #[.int .i64 0, .string ⟨#[]⟩], .int .i64 4]) (by simp [results, Tryd.results19, go_sem]) rfl ⟨rfl, (by repeat (first | with_reducible exact Pushed.refl _ | with_reducible assumption | with_reducible refine Pushed.push ?_ _ | with_reducible refine Pushed.alloc ?_ _ | with_reducible refine Pushed.drewN ?_ _ | with_reducible refine Pushed.drew ?_))⟩
set_option maxRecDepth 20000 in
set_option maxHeartbeats 6400000 in
theorem scale_qbig (m num : Int) (A B den hi lo : Nat) (mode : Int) (c : ByteArray) (hc : c.size ≤ 9223372036854775807) (h0 : Hid (mchkR m c = 0)) (n0 : -1099511627776 ≤ num) (n1 : num ≤ 1099511627776) (d0 : 1 ≤ den) (d1 : den ≤ 1099511627776) (m0 : 1 ≤ mode) (m1 : mode ≤ 4) (G1 : Hid (∀ w, Calls Tryd.prog 37 #[.int .i64 m] w fun x w' => x = .returned (.int .u64 (A : Int)) ∧ Pushed w w')) (G2 : Hid (∀ w, Calls Tryd.prog 37 #[.int .i64 num] w fun x w' => x = .returned (.int .u64 (B : Int)) ∧ Pushed w w')) (MM : Hid (∀ w, Calls Tryd.prog 36 #[.int .u64 (A : Int), .int .u64 (B : Int)] w fun x w' => x = .returned (.tuple #[.int .u64 (hi : Int), .int .u64 (lo : Int)]) ∧ Pushed w w')) (q r : Nat) (hh : ¬ den ≤ hi) (DV : Hid (∀ w, Calls Tryd.prog 38 #[.int .u64 (hi : Int), .int .u64 (lo : Int), .int .u64 (den : Int)] w fun x w' => x = .returned (.tuple #[.int .u64 (q : Int), .int .u64 (r : Int)]) ∧ Pushed w w')) (hq : 4503599627370496 < q) (w : World) :
    Calls Tryd.prog 19 #[.agg #[.int .i64 m, .string c], .int .i64 num, .int .i64 (den : Int), .int .i64 mode] w fun x w' => x = .returned (.tuple #[.agg #[.int .i64 0, .string ⟨#[]⟩], .int .i64 4]) ∧ Pushed w w' := by
  have CK := Lib.hid (fun w => mchk_any m c hc h0 w)
  have k1 : ¬ (den : Int) < 1 := by omega
  have k2 : ¬ (1099511627776 : Int) < (den : Int) := by omega
  have k3 : ¬ num < -1099511627776 := by omega
  have k4 : ¬ (1099511627776 : Int) < num := by omega
  have k5 : ¬ mode < 1 := by omega
  have k6 : ¬ 4 < mode := by omega
  have kd0 : 0 ≤ (den : Int) := by omega
  have kd1 : (den : Int) ≤ 1099511627776 := by omega
  have k7 : ¬ (den : Int) ≤ (hi : Int) := by omega
  have k8 : (4503599627370496 : Int) < (q : Int) := by omega
  clear hh hq
  clear n0 n1 d0 d1 m0 m1 h0 hc
  generalize (den : Int) = den at *
  go_enter Tryd.func19, Tryd.ntmps19
  go_wp2_with fail
  go_at_call 16
  with_reducible refine (CK.out _).mono ?_
  rintro x w1 ⟨rfl, l0, n0, rfl⟩
  go_wp2_with fail
  go_at_call 37
  with_reducible refine (G1.out _).mono ?_
  rintro x w1 ⟨rfl, l1, n1, rfl⟩
  go_wp2_with fail
  go_at_call 37
  with_reducible refine (G2.out _).mono ?_
  rintro x w1 ⟨rfl, l2, n2, rfl⟩
  go_wp2_with fail
  go_at_call 36
  with_reducible refine (MM.out _).mono ?_
  rintro x w1 ⟨rfl, l3, n3, rfl⟩
  go_wp2_with fail
  go_at_call 38
  with_reducible refine (DV.out _).mono ?_
  rintro x w1 ⟨rfl, l4, n4, rfl⟩
  go_wp2
  exact bodyPost_ret (v := .tuple #[.agg #[.int .i64 0, .string ⟨#[]⟩], .int .i64 4]) (by simp [results, Tryd.results19, go_sem]) rfl ⟨rfl, (by repeat (first | with_reducible exact Pushed.refl _ | with_reducible assumption | with_reducible refine Pushed.push ?_ _ | with_reducible refine Pushed.alloc ?_ _ | with_reducible refine Pushed.drewN ?_ _ | with_reducible refine Pushed.drew ?_))⟩
set_option maxRecDepth 20000 in
set_option maxHeartbeats 6400000 in
theorem scale_p0 (m num : Int) (A B den hi lo : Nat) (mode : Int) (c : ByteArray) (hc : c.size ≤ 9223372036854775807) (h0 : Hid (mchkR m c = 0)) (n0 : -1099511627776 ≤ num) (n1 : num ≤ 1099511627776) (d0 : 1 ≤ den) (d1 : den ≤ 1099511627776) (m0 : 1 ≤ mode) (m1 : mode ≤ 4) (G1 : Hid (∀ w, Calls Tryd.prog 37 #[.int .i64 m] w fun x w' => x = .returned (.int .u64 (A : Int)) ∧ Pushed w w')) (G2 : Hid (∀ w, Calls Tryd.prog 37 #[.int .i64 num] w fun x w' => x = .returned (.int .u64 (B : Int)) ∧ Pushed w w')) (MM : Hid (∀ w, Calls Tryd.prog 36 #[.int .u64 (A : Int), .int .u64 (B : Int)] w fun x w' => x = .returned (.tuple #[.int .u64 (hi : Int), .int .u64 (lo : Int)]) ∧ Pushed w w')) (q r : Nat) (hh : ¬ den ≤ hi) (DV : Hid (∀ w, Calls Tryd.prog 38 #[.int .u64 (hi : Int), .int .u64 (lo : Int), .int .u64 (den : Int)] w fun x w' => x = .returned (.tuple #[.int .u64 (q : Int), .int .u64 (r : Int)]) ∧ Pushed w w')) (hq : q ≤ 4503599627370496) (hr : r < den) (kne : (decide (m < 0) != decide (num < 0)) = false) (hb : upB q r den mode = false) (v e : Int) (u : ByteArray) (VD : Hid (∀ w, Calls Tryd.prog 30 #[.int .i64 (q : Int), .string c] w fun x w' => x = .returned (.tuple #[.agg #[.int .i64 v, .string u], .int .i64 e]) ∧ Pushed w w')) (w : World) :
    Calls Tryd.prog 19 #[.agg #[.int .i64 m, .string c], .int .i64 num, .int .i64 (den : Int), .int .i64 mode] w fun x w' => x = .returned (.tuple #[.agg #[.int .i64 v, .string u], .int .i64 e]) ∧ Pushed w w' := by
  have CK := Lib.hid (fun w => mchk_any m c hc h0 w)
  have UP := Lib.hid (fun w => up_any q r den mode (by omega) d1 (Lib.hid hb) w)
  have k1 : ¬ (den : Int) < 1 := by omega
  have k2 : ¬ (1099511627776 : Int) < (den : Int) := by omega
  have k3 : ¬ num < -1099511627776 := by omega
  have k4 : ¬ (1099511627776 : Int) < num := by omega
  have k5 : ¬ mode < 1 := by omega
  have k6 : ¬ 4 < mode := by omega
  have kd0 : 0 ≤ (den : Int) := by omega
  have kd1 : (den : Int) ≤ 1099511627776 := by omega
  have k7 : ¬ (den : Int) ≤ (hi : Int) := by omega
  have k8 : ¬ (4503599627370496 : Int) < (q : Int) := by omega
  have hq0 : 0 ≤ (q : Int) := by omega
  clear hh hq hr hb
  have kne2 : (decide (m < 0) == decide (num < 0)) = true := by revert kne; cases decide (m < 0) <;> cases decide (num < 0) <;> decide
  clear n0 n1 d0 d1 m0 m1 h0 hc
  generalize (den : Int) = den at *
  generalize (q : Int) = q at *
  generalize (r : Int) = r at *
  go_enter Tryd.func19, Tryd.ntmps19
  go_wp2_with fail
  go_at_call 16
  with_reducible refine (CK.out _).mono ?_
  rintro x w1 ⟨rfl, l0, n0, rfl⟩
  go_wp2_with fail
  go_at_call 37
  with_reducible refine (G1.out _).mono ?_
  rintro x w1 ⟨rfl, l1, n1, rfl⟩
  go_wp2_with fail
  go_at_call 37
  with_reducible refine (G2.out _).mono ?_
  rintro x w1 ⟨rfl, l2, n2, rfl⟩
  go_wp2_with fail
  go_at_call 36
  with_reducible refine (MM.out _).mono ?_
  rintro x w1 ⟨rfl, l3, n3, rfl⟩
  go_wp2_with fail
  go_at_call 38
  with_reducible refine (DV.out _).mono ?_
  rintro x w1 ⟨rfl, l4, n4, rfl⟩
  go_wp2_with fail
  go_at_call 39
  with_reducible refine (UP.out _).mono ?_
  rintro x w1 ⟨rfl, l5, n5, rfl⟩
  go_wp2_with fail
  go_at_call 30
  with_reducible refine (VD.out _).mono ?_
  rintro x w1 ⟨rfl, l6, n6, rfl⟩
  go_wp2
  exact bodyPost_ret (v := .tuple #[.agg #[.int .i64 v, .string u], .int .i64 e]) (by simp [results, Tryd.results19, go_sem]) rfl ⟨rfl, (by repeat (first | with_reducible exact Pushed.refl _ | with_reducible assumption | with_reducible refine Pushed.push ?_ _ | with_reducible refine Pushed.alloc ?_ _ | with_reducible refine Pushed.drewN ?_ _ | with_reducible refine Pushed.drew ?_))⟩
set_option maxRecDepth 20000 in
set_option maxHeartbeats 6400000 in
theorem scale_p1 (m num : Int) (A B den hi lo : Nat) (mode : Int) (c : ByteArray) (hc : c.size ≤ 9223372036854775807) (h0 : Hid (mchkR m c = 0)) (n0 : -1099511627776 ≤ num) (n1 : num ≤ 1099511627776) (d0 : 1 ≤ den) (d1 : den ≤ 1099511627776) (m0 : 1 ≤ mode) (m1 : mode ≤ 4) (G1 : Hid (∀ w, Calls Tryd.prog 37 #[.int .i64 m] w fun x w' => x = .returned (.int .u64 (A : Int)) ∧ Pushed w w')) (G2 : Hid (∀ w, Calls Tryd.prog 37 #[.int .i64 num] w fun x w' => x = .returned (.int .u64 (B : Int)) ∧ Pushed w w')) (MM : Hid (∀ w, Calls Tryd.prog 36 #[.int .u64 (A : Int), .int .u64 (B : Int)] w fun x w' => x = .returned (.tuple #[.int .u64 (hi : Int), .int .u64 (lo : Int)]) ∧ Pushed w w')) (q r : Nat) (hh : ¬ den ≤ hi) (DV : Hid (∀ w, Calls Tryd.prog 38 #[.int .u64 (hi : Int), .int .u64 (lo : Int), .int .u64 (den : Int)] w fun x w' => x = .returned (.tuple #[.int .u64 (q : Int), .int .u64 (r : Int)]) ∧ Pushed w w')) (hq : q ≤ 4503599627370496) (hr : r < den) (kne : (decide (m < 0) != decide (num < 0)) = false) (hb : upB q r den mode = true) (v e : Int) (u : ByteArray) (VD : Hid (∀ w, Calls Tryd.prog 30 #[.int .i64 ((q : Int) + 1), .string c] w fun x w' => x = .returned (.tuple #[.agg #[.int .i64 v, .string u], .int .i64 e]) ∧ Pushed w w')) (w : World) :
    Calls Tryd.prog 19 #[.agg #[.int .i64 m, .string c], .int .i64 num, .int .i64 (den : Int), .int .i64 mode] w fun x w' => x = .returned (.tuple #[.agg #[.int .i64 v, .string u], .int .i64 e]) ∧ Pushed w w' := by
  have CK := Lib.hid (fun w => mchk_any m c hc h0 w)
  have UP := Lib.hid (fun w => up_any q r den mode (by omega) d1 (Lib.hid hb) w)
  have k1 : ¬ (den : Int) < 1 := by omega
  have k2 : ¬ (1099511627776 : Int) < (den : Int) := by omega
  have k3 : ¬ num < -1099511627776 := by omega
  have k4 : ¬ (1099511627776 : Int) < num := by omega
  have k5 : ¬ mode < 1 := by omega
  have k6 : ¬ 4 < mode := by omega
  have kd0 : 0 ≤ (den : Int) := by omega
  have kd1 : (den : Int) ≤ 1099511627776 := by omega
  have k7 : ¬ (den : Int) ≤ (hi : Int) := by omega
  have k8 : ¬ (4503599627370496 : Int) < (q : Int) := by omega
  have hq0 : 0 ≤ (q : Int) := by omega
  clear hh hq hr hb
  have kne2 : (decide (m < 0) == decide (num < 0)) = true := by revert kne; cases decide (m < 0) <;> cases decide (num < 0) <;> decide
  clear n0 n1 d0 d1 m0 m1 h0 hc
  generalize (den : Int) = den at *
  generalize (q : Int) = q at *
  generalize (r : Int) = r at *
  go_enter Tryd.func19, Tryd.ntmps19
  go_wp2_with fail
  go_at_call 16
  with_reducible refine (CK.out _).mono ?_
  rintro x w1 ⟨rfl, l0, n0, rfl⟩
  go_wp2_with fail
  go_at_call 37
  with_reducible refine (G1.out _).mono ?_
  rintro x w1 ⟨rfl, l1, n1, rfl⟩
  go_wp2_with fail
  go_at_call 37
  with_reducible refine (G2.out _).mono ?_
  rintro x w1 ⟨rfl, l2, n2, rfl⟩
  go_wp2_with fail
  go_at_call 36
  with_reducible refine (MM.out _).mono ?_
  rintro x w1 ⟨rfl, l3, n3, rfl⟩
  go_wp2_with fail
  go_at_call 38
  with_reducible refine (DV.out _).mono ?_
  rintro x w1 ⟨rfl, l4, n4, rfl⟩
  go_wp2_with fail
  go_at_call 39
  with_reducible refine (UP.out _).mono ?_
  rintro x w1 ⟨rfl, l5, n5, rfl⟩
  go_wp2_with fail
  go_at_call 30
  with_reducible refine (VD.out _).mono ?_
  rintro x w1 ⟨rfl, l6, n6, rfl⟩
  go_wp2
  exact bodyPost_ret (v := .tuple #[.agg #[.int .i64 v, .string u], .int .i64 e]) (by simp [results, Tryd.results19, go_sem]) rfl ⟨rfl, (by repeat (first | with_reducible exact Pushed.refl _ | with_reducible assumption | with_reducible refine Pushed.push ?_ _ | with_reducible refine Pushed.alloc ?_ _ | with_reducible refine Pushed.drewN ?_ _ | with_reducible refine Pushed.drew ?_))⟩
set_option maxRecDepth 20000 in
set_option maxHeartbeats 6400000 in
theorem scale_n0 (m num : Int) (A B den hi lo : Nat) (mode : Int) (c : ByteArray) (hc : c.size ≤ 9223372036854775807) (h0 : Hid (mchkR m c = 0)) (n0 : -1099511627776 ≤ num) (n1 : num ≤ 1099511627776) (d0 : 1 ≤ den) (d1 : den ≤ 1099511627776) (m0 : 1 ≤ mode) (m1 : mode ≤ 4) (G1 : Hid (∀ w, Calls Tryd.prog 37 #[.int .i64 m] w fun x w' => x = .returned (.int .u64 (A : Int)) ∧ Pushed w w')) (G2 : Hid (∀ w, Calls Tryd.prog 37 #[.int .i64 num] w fun x w' => x = .returned (.int .u64 (B : Int)) ∧ Pushed w w')) (MM : Hid (∀ w, Calls Tryd.prog 36 #[.int .u64 (A : Int), .int .u64 (B : Int)] w fun x w' => x = .returned (.tuple #[.int .u64 (hi : Int), .int .u64 (lo : Int)]) ∧ Pushed w w')) (q r : Nat) (hh : ¬ den ≤ hi) (DV : Hid (∀ w, Calls Tryd.prog 38 #[.int .u64 (hi : Int), .int .u64 (lo : Int), .int .u64 (den : Int)] w fun x w' => x = .returned (.tuple #[.int .u64 (q : Int), .int .u64 (r : Int)]) ∧ Pushed w w')) (hq : q ≤ 4503599627370496) (hr : r < den) (kne : (decide (m < 0) != decide (num < 0)) = true) (hb : upB q r den mode = false) (v e : Int) (u : ByteArray) (VD : Hid (∀ w, Calls Tryd.prog 30 #[.int .i64 (-(q : Int)), .string c] w fun x w' => x = .returned (.tuple #[.agg #[.int .i64 v, .string u], .int .i64 e]) ∧ Pushed w w')) (w : World) :
    Calls Tryd.prog 19 #[.agg #[.int .i64 m, .string c], .int .i64 num, .int .i64 (den : Int), .int .i64 mode] w fun x w' => x = .returned (.tuple #[.agg #[.int .i64 v, .string u], .int .i64 e]) ∧ Pushed w w' := by
  have CK := Lib.hid (fun w => mchk_any m c hc h0 w)
  have UP := Lib.hid (fun w => up_any q r den mode (by omega) d1 (Lib.hid hb) w)
  have k1 : ¬ (den : Int) < 1 := by omega
  have k2 : ¬ (1099511627776 : Int) < (den : Int) := by omega
  have k3 : ¬ num < -1099511627776 := by omega
  have k4 : ¬ (1099511627776 : Int) < num := by omega
  have k5 : ¬ mode < 1 := by omega
  have k6 : ¬ 4 < mode := by omega
  have kd0 : 0 ≤ (den : Int) := by omega
  have kd1 : (den : Int) ≤ 1099511627776 := by omega
  have k7 : ¬ (den : Int) ≤ (hi : Int) := by omega
  have k8 : ¬ (4503599627370496 : Int) < (q : Int) := by omega
  have hq0 : 0 ≤ (q : Int) := by omega
  clear hh hq hr hb
  have kne2 : (decide (m < 0) == decide (num < 0)) = false := by revert kne; cases decide (m < 0) <;> cases decide (num < 0) <;> decide
  clear n0 n1 d0 d1 m0 m1 h0 hc
  generalize (den : Int) = den at *
  generalize (q : Int) = q at *
  generalize (r : Int) = r at *
  go_enter Tryd.func19, Tryd.ntmps19
  go_wp2_with fail
  go_at_call 16
  with_reducible refine (CK.out _).mono ?_
  rintro x w1 ⟨rfl, l0, n0, rfl⟩
  go_wp2_with fail
  go_at_call 37
  with_reducible refine (G1.out _).mono ?_
  rintro x w1 ⟨rfl, l1, n1, rfl⟩
  go_wp2_with fail
  go_at_call 37
  with_reducible refine (G2.out _).mono ?_
  rintro x w1 ⟨rfl, l2, n2, rfl⟩
  go_wp2_with fail
  go_at_call 36
  with_reducible refine (MM.out _).mono ?_
  rintro x w1 ⟨rfl, l3, n3, rfl⟩
  go_wp2_with fail
  go_at_call 38
  with_reducible refine (DV.out _).mono ?_
  rintro x w1 ⟨rfl, l4, n4, rfl⟩
  go_wp2_with fail
  go_at_call 39
  with_reducible refine (UP.out _).mono ?_
  rintro x w1 ⟨rfl, l5, n5, rfl⟩
  go_wp2_with fail
  go_at_call 30
  with_reducible refine (VD.out _).mono ?_
  rintro x w1 ⟨rfl, l6, n6, rfl⟩
  go_wp2
  exact bodyPost_ret (v := .tuple #[.agg #[.int .i64 v, .string u], .int .i64 e]) (by simp [results, Tryd.results19, go_sem]) rfl ⟨rfl, (by repeat (first | with_reducible exact Pushed.refl _ | with_reducible assumption | with_reducible refine Pushed.push ?_ _ | with_reducible refine Pushed.alloc ?_ _ | with_reducible refine Pushed.drewN ?_ _ | with_reducible refine Pushed.drew ?_))⟩
set_option maxRecDepth 20000 in
set_option maxHeartbeats 6400000 in
theorem scale_n1 (m num : Int) (A B den hi lo : Nat) (mode : Int) (c : ByteArray) (hc : c.size ≤ 9223372036854775807) (h0 : Hid (mchkR m c = 0)) (n0 : -1099511627776 ≤ num) (n1 : num ≤ 1099511627776) (d0 : 1 ≤ den) (d1 : den ≤ 1099511627776) (m0 : 1 ≤ mode) (m1 : mode ≤ 4) (G1 : Hid (∀ w, Calls Tryd.prog 37 #[.int .i64 m] w fun x w' => x = .returned (.int .u64 (A : Int)) ∧ Pushed w w')) (G2 : Hid (∀ w, Calls Tryd.prog 37 #[.int .i64 num] w fun x w' => x = .returned (.int .u64 (B : Int)) ∧ Pushed w w')) (MM : Hid (∀ w, Calls Tryd.prog 36 #[.int .u64 (A : Int), .int .u64 (B : Int)] w fun x w' => x = .returned (.tuple #[.int .u64 (hi : Int), .int .u64 (lo : Int)]) ∧ Pushed w w')) (q r : Nat) (hh : ¬ den ≤ hi) (DV : Hid (∀ w, Calls Tryd.prog 38 #[.int .u64 (hi : Int), .int .u64 (lo : Int), .int .u64 (den : Int)] w fun x w' => x = .returned (.tuple #[.int .u64 (q : Int), .int .u64 (r : Int)]) ∧ Pushed w w')) (hq : q ≤ 4503599627370496) (hr : r < den) (kne : (decide (m < 0) != decide (num < 0)) = true) (hb : upB q r den mode = true) (v e : Int) (u : ByteArray) (VD : Hid (∀ w, Calls Tryd.prog 30 #[.int .i64 (-((q : Int) + 1)), .string c] w fun x w' => x = .returned (.tuple #[.agg #[.int .i64 v, .string u], .int .i64 e]) ∧ Pushed w w')) (w : World) :
    Calls Tryd.prog 19 #[.agg #[.int .i64 m, .string c], .int .i64 num, .int .i64 (den : Int), .int .i64 mode] w fun x w' => x = .returned (.tuple #[.agg #[.int .i64 v, .string u], .int .i64 e]) ∧ Pushed w w' := by
  have CK := Lib.hid (fun w => mchk_any m c hc h0 w)
  have UP := Lib.hid (fun w => up_any q r den mode (by omega) d1 (Lib.hid hb) w)
  have k1 : ¬ (den : Int) < 1 := by omega
  have k2 : ¬ (1099511627776 : Int) < (den : Int) := by omega
  have k3 : ¬ num < -1099511627776 := by omega
  have k4 : ¬ (1099511627776 : Int) < num := by omega
  have k5 : ¬ mode < 1 := by omega
  have k6 : ¬ 4 < mode := by omega
  have kd0 : 0 ≤ (den : Int) := by omega
  have kd1 : (den : Int) ≤ 1099511627776 := by omega
  have k7 : ¬ (den : Int) ≤ (hi : Int) := by omega
  have k8 : ¬ (4503599627370496 : Int) < (q : Int) := by omega
  have hq0 : 0 ≤ (q : Int) := by omega
  clear hh hq hr hb
  have kne2 : (decide (m < 0) == decide (num < 0)) = false := by revert kne; cases decide (m < 0) <;> cases decide (num < 0) <;> decide
  clear n0 n1 d0 d1 m0 m1 h0 hc
  generalize (den : Int) = den at *
  generalize (q : Int) = q at *
  generalize (r : Int) = r at *
  go_enter Tryd.func19, Tryd.ntmps19
  go_wp2_with fail
  go_at_call 16
  with_reducible refine (CK.out _).mono ?_
  rintro x w1 ⟨rfl, l0, n0, rfl⟩
  go_wp2_with fail
  go_at_call 37
  with_reducible refine (G1.out _).mono ?_
  rintro x w1 ⟨rfl, l1, n1, rfl⟩
  go_wp2_with fail
  go_at_call 37
  with_reducible refine (G2.out _).mono ?_
  rintro x w1 ⟨rfl, l2, n2, rfl⟩
  go_wp2_with fail
  go_at_call 36
  with_reducible refine (MM.out _).mono ?_
  rintro x w1 ⟨rfl, l3, n3, rfl⟩
  go_wp2_with fail
  go_at_call 38
  with_reducible refine (DV.out _).mono ?_
  rintro x w1 ⟨rfl, l4, n4, rfl⟩
  go_wp2_with fail
  go_at_call 39
  with_reducible refine (UP.out _).mono ?_
  rintro x w1 ⟨rfl, l5, n5, rfl⟩
  go_wp2_with fail
  go_at_call 30
  with_reducible refine (VD.out _).mono ?_
  rintro x w1 ⟨rfl, l6, n6, rfl⟩
  go_wp2
  exact bodyPost_ret (v := .tuple #[.agg #[.int .i64 v, .string u], .int .i64 e]) (by simp [results, Tryd.results19, go_sem]) rfl ⟨rfl, (by repeat (first | with_reducible exact Pushed.refl _ | with_reducible assumption | with_reducible refine Pushed.push ?_ _ | with_reducible refine Pushed.alloc ?_ _ | with_reducible refine Pushed.drewN ?_ _ | with_reducible refine Pushed.drew ?_))⟩
set_option maxHeartbeats 6400000 in
theorem scale_e1 (m num den mode : Int) (c : ByteArray) (hc : c.size ≤ 9223372036854775807) {e : Int} (h0 : Hid (mchkR m c = e)) (he : (e != 0) = true) (w : World) :
    Calls Tryd.prog 19 #[.agg #[.int .i64 m, .string c], .int .i64 num, .int .i64 den, .int .i64 mode] w fun x w' => x = .returned (.tuple #[.agg #[.int .i64 0, .string ⟨#[]⟩], .int .i64 e]) ∧ Pushed w w' := by
  have CK := Lib.hid (fun w => mchk_any m c hc h0 w)
  clear hc h0
  go_enter Tryd.func19, Tryd.ntmps19
  go_wp2_with fail
  go_at_call 16
  with_reducible refine (CK.out _).mono ?_
  rintro x w1 ⟨rfl, l0, n0, rfl⟩
  go_wp2
  exact bodyPost_ret (v := .tuple #[.agg #[.int .i64 0, .string ⟨#[]⟩], .int .i64 e]) (by simp [results, Tryd.results19, go_sem]) rfl ⟨rfl, (by repeat (first | with_reducible exact Pushed.refl _ | with_reducible assumption | with_reducible refine Pushed.push ?_ _ | with_reducible refine Pushed.alloc ?_ _ | with_reducible refine Pushed.drewN ?_ _ | with_reducible refine Pushed.drew ?_))⟩
set_option maxHeartbeats 6400000 in
theorem scale_e2 (m num den mode : Int) (c : ByteArray) (hc : c.size ≤ 9223372036854775807) (h0 : Hid (mchkR m c = 0)) (hb : den < 1 ∨ 1099511627776 < den ∨ num < -1099511627776 ∨ 1099511627776 < num ∨ mode < 1 ∨ 4 < mode) (w : World) :
    Calls Tryd.prog 19 #[.agg #[.int .i64 m, .string c], .int .i64 num, .int .i64 den, .int .i64 mode] w fun x w' => x = .returned (.tuple #[.agg #[.int .i64 0, .string ⟨#[]⟩], .int .i64 4]) ∧ Pushed w w' := by
  have CK := Lib.hid (fun w => mchk_any m c hc h0 w)
  clear hc h0
  have HB := Lib.hid hb
  clear hb
  by_cases g0 : den < 1
  · clear HB
    go_enter Tryd.func19, Tryd.ntmps19
    go_wp2_with fail
    go_at_call 16
    with_reducible refine (CK.out _).mono ?_
    rintro x w1 ⟨rfl, l0, n0, rfl⟩
    go_wp2
    exact bodyPost_ret (v := .tuple #[.agg #[.int .i64 0, .string ⟨#[]⟩], .int .i64 4]) (by simp [results, Tryd.results19, go_sem]) rfl ⟨rfl, (by repeat (first | with_reducible exact Pushed.refl _ | with_reducible assumption | with_reducible refine Pushed.push ?_ _ | with_reducible refine Pushed.alloc ?_ _ | with_reducible refine Pushed.drewN ?_ _ | with_reducible refine Pushed.drew ?_))⟩
  by_cases g1 : 1099511627776 < den
  · clear HB
    go_enter Tryd.func19, Tryd.ntmps19
    go_wp2_with fail
    go_at_call 16
    with_reducible refine (CK.out _).mono ?_
    rintro x w1 ⟨rfl, l0, n0, rfl⟩
    go_wp2
    exact bodyPost_ret (v := .tuple #[.agg #[.int .i64 0, .string ⟨#[]⟩], .int .i64 4]) (by simp [results, Tryd.results19, go_sem]) rfl ⟨rfl, (by repeat (first | with_reducible exact Pushed.refl _ | with_reducible assumption | with_reducible refine Pushed.push ?_ _ | with_reducible refine Pushed.alloc ?_ _ | with_reducible refine Pushed.drewN ?_ _ | with_reducible refine Pushed.drew ?_))⟩
  by_cases g2 : num < -1099511627776
  · clear HB
    go_enter Tryd.func19, Tryd.ntmps19
    go_wp2_with fail
    go_at_call 16
    with_reducible refine (CK.out _).mono ?_
    rintro x w1 ⟨rfl, l0, n0, rfl⟩
    go_wp2
    exact bodyPost_ret (v := .tuple #[.agg #[.int .i64 0, .string ⟨#[]⟩], .int .i64 4]) (by simp [results, Tryd.results19, go_sem]) rfl ⟨rfl, (by repeat (first | with_reducible exact Pushed.refl _ | with_reducible assumption | with_reducible refine Pushed.push ?_ _ | with_reducible refine Pushed.alloc ?_ _ | with_reducible refine Pushed.drewN ?_ _ | with_reducible refine Pushed.drew ?_))⟩
  by_cases g3 : 1099511627776 < num
  · clear HB
    go_enter Tryd.func19, Tryd.ntmps19
    go_wp2_with fail
    go_at_call 16
    with_reducible refine (CK.out _).mono ?_
    rintro x w1 ⟨rfl, l0, n0, rfl⟩
    go_wp2
    exact bodyPost_ret (v := .tuple #[.agg #[.int .i64 0, .string ⟨#[]⟩], .int .i64 4]) (by simp [results, Tryd.results19, go_sem]) rfl ⟨rfl, (by repeat (first | with_reducible exact Pushed.refl _ | with_reducible assumption | with_reducible refine Pushed.push ?_ _ | with_reducible refine Pushed.alloc ?_ _ | with_reducible refine Pushed.drewN ?_ _ | with_reducible refine Pushed.drew ?_))⟩
  by_cases g4 : mode < 1
  · clear HB
    go_enter Tryd.func19, Tryd.ntmps19
    go_wp2_with fail
    go_at_call 16
    with_reducible refine (CK.out _).mono ?_
    rintro x w1 ⟨rfl, l0, n0, rfl⟩
    go_wp2
    exact bodyPost_ret (v := .tuple #[.agg #[.int .i64 0, .string ⟨#[]⟩], .int .i64 4]) (by simp [results, Tryd.results19, go_sem]) rfl ⟨rfl, (by repeat (first | with_reducible exact Pushed.refl _ | with_reducible assumption | with_reducible refine Pushed.push ?_ _ | with_reducible refine Pushed.alloc ?_ _ | with_reducible refine Pushed.drewN ?_ _ | with_reducible refine Pushed.drew ?_))⟩
  by_cases g5 : 4 < mode
  · clear HB
    go_enter Tryd.func19, Tryd.ntmps19
    go_wp2_with fail
    go_at_call 16
    with_reducible refine (CK.out _).mono ?_
    rintro x w1 ⟨rfl, l0, n0, rfl⟩
    go_wp2
    exact bodyPost_ret (v := .tuple #[.agg #[.int .i64 0, .string ⟨#[]⟩], .int .i64 4]) (by simp [results, Tryd.results19, go_sem]) rfl ⟨rfl, (by repeat (first | with_reducible exact Pushed.refl _ | with_reducible assumption | with_reducible refine Pushed.push ?_ _ | with_reducible refine Pushed.alloc ?_ _ | with_reducible refine Pushed.drewN ?_ _ | with_reducible refine Pushed.drew ?_))⟩
  exact absurd HB.out (by omega)
end Go.Proofs.YtompkkanckejjaaDoor

/-
  CONTRACTS of rates: scaling where the product is one word, conversion.
-/
import Derived.Test.YtobnkfgikafanaaDoorR10
namespace Go.Proofs.YtobnkfgikafanaaDoor
open Go.RowKit
set_option linter.unusedVariables false
set_option linter.unusedSimpArgs false
def b2n (b : Bool) : Nat := if b then 1 else 0
/-- A magnitude times num / den, rounded. -/
def scN (a num den : Nat) (mode : Int) : Nat := a * num / den + b2n (upB (a * num / den) (a * num % den) den mode)
set_option maxRecDepth 20000 in
set_option maxHeartbeats 6400000 in
theorem scale_pos (a num den : Nat) (mode : Int) (c : ByteArray) (hc : c.size ≤ 1000000) (hcur : curP c) (ga : a ≤ 4503599627370496) (n0 : 1 ≤ num) (n1 : num ≤ 1099511627776) (d0 : 1 ≤ den) (d1 : den ≤ 1099511627776) (hp : a * num ≤ 4611686018427387904) (hq : a * num / den ≤ 2251799813685248) (m0 : 1 ≤ mode) (m1 : mode ≤ 4) (w : World) :
    Calls Tryd.prog 35 #[.agg #[.int .i64 (a : Int), .string c], .int .i64 (num : Int), .int .i64 (den : Int), .int .i64 mode] w fun x w' => x = .returned (.tuple #[.agg #[.int .i64 (scN a num den mode : Int), .string c], .int .i64 0]) ∧ Pushed w w' := by
  have CK := Lib.hid (fun w => mchk_any (a : Int) c hc (Lib.hid (show mchkR (a : Int) c = 0 by rw [mchkR, if_pos hcur, if_pos (by omega)])) w)
  have G1 := Lib.hid (fun w => mag_pos a (by omega) w)
  have G2 := Lib.hid (fun w => mag_pos num (by omega) w)
  have MM : Hid (∀ w, Calls Tryd.prog 45 #[.int .u64 (a : Int), .int .u64 (num : Int)] w fun x w' => x = .returned (.tuple #[.int .u64 0, .int .u64 ((a * num : Nat) : Int)]) ∧ Pushed w w') := Lib.hid fun w => (Tryd.bits_Mul64 a num (by omega) (by omega) w).mono fun x w' h' => by
    obtain ⟨rfl, rfl⟩ := h'
    rw [Nat.div_eq_of_lt (by omega), Nat.mod_eq_of_lt (by omega)]
    exact ⟨rfl, Pushed.refl _⟩
  have DV := Lib.hid (fun w => div64_lo (a * num) den d0 (by omega) w)
  have hrl : a * num % den < den := Nat.mod_lt _ (by omega)
  obtain ⟨b, hb⟩ : ∃ b, upB (a * num / den) (a * num % den) den mode = b := ⟨_, rfl⟩
  have UP := Lib.hid (fun w => up_any (a * num / den) (a * num % den) den mode (by omega) d1 (Lib.hid hb) w)
  have HS : Hid (scN a num den mode = a * num / den + b2n b) := Lib.hid (by rw [scN, hb])
  rw [HS.out]
  clear hb HS
  generalize a * num = p at *
  generalize p / den = q at *
  generalize p % den = r at *
  have k1 : ¬ (den : Int) < 1 := by omega
  have k2 : ¬ (1099511627776 : Int) < (den : Int) := by omega
  have k3 : ¬ (num : Int) < -1099511627776 := by omega
  have k4 : ¬ (1099511627776 : Int) < (num : Int) := by omega
  have k5 : ¬ mode < 1 := by omega
  have k6 : ¬ 4 < mode := by omega
  have k7 : ¬ (den : Int) ≤ 0 := by omega
  have k8 : ¬ (4503599627370496 : Int) < (q : Int) := by omega
  have k9 : ¬ (num : Int) < 0 := by omega
  have ka : ¬ (a : Int) < 0 := by omega
  have hq1 : (q : Int) ≤ 2251799813685248 := by omega
  have hq0 : 0 ≤ (q : Int) := by omega
  have hd0 : 1 ≤ (den : Int) := by omega
  have hd1 : (den : Int) ≤ 1099511627776 := by omega
  cases b
  · have VD := Lib.hid (fun w => valid_ok (q : Int) c hc (Lib.hid (show mchkR (q : Int) c = 0 by rw [mchkR, if_pos hcur, if_pos (by omega)])) w)
    clear hcur ga n0 n1 d0 d1 hp hq m0 m1 hrl
    show Calls Tryd.prog 35 _ w fun x w' => x = .returned (.tuple #[.agg #[.int .i64 (q : Int), .string c], .int .i64 0]) ∧ Pushed w w'
    generalize (q : Int) = q at *
    generalize (r : Int) = r at *
    generalize (den : Int) = den at *
    generalize (num : Int) = num at *
    generalize (a : Int) = m at *
    have dm : decide (m < 0) = false := decide_eq_false ka
    have dn : decide (num < 0) = false := decide_eq_false k9
    have kne : (decide (m < 0) != decide (num < 0)) = false := by rw [dm, dn]; rfl
    go_enter Tryd.func35, Tryd.ntmps35
    go_wp2_with fail
    go_at_call 34
    with_reducible refine (CK.out _).mono ?_
    rintro x w1 ⟨rfl, l0, n0, rfl⟩
    go_wp2_with fail
    go_at_call 46
    with_reducible refine (G1.out _).mono ?_
    rintro x w1 ⟨rfl, l1, n1, rfl⟩
    go_wp2_with fail
    go_at_call 46
    with_reducible refine (G2.out _).mono ?_
    rintro x w1 ⟨rfl, l2, n2, rfl⟩
    go_wp2_with fail
    go_at_call 45
    with_reducible refine (MM.out _).mono ?_
    rintro x w1 ⟨rfl, l3, n3, rfl⟩
    go_wp2_with fail
    go_at_call 47
    with_reducible refine (DV.out _).mono ?_
    rintro x w1 ⟨rfl, l4, n4, rfl⟩
    go_wp2_with fail
    go_at_call 48
    with_reducible refine (UP.out _).mono ?_
    rintro x w1 ⟨rfl, l5, n5, rfl⟩
    go_wp2_with fail
    go_at_call 49
    with_reducible refine (VD.out _).mono ?_
    rintro x w1 ⟨rfl, l6, n6, rfl⟩
    go_wp2
    exact bodyPost_ret (v := .tuple #[.agg #[.int .i64 q, .string c], .int .i64 0]) (by simp [results, Tryd.results35, go_sem]) rfl ⟨rfl, (by repeat (first | with_reducible exact Pushed.refl _ | with_reducible assumption | with_reducible refine Pushed.push ?_ _ | with_reducible refine Pushed.alloc ?_ _ | with_reducible refine Pushed.drewN ?_ _ | with_reducible refine Pushed.drew ?_))⟩
  · have VD := Lib.hid (fun w => valid_ok ((q : Int) + 1) c hc (Lib.hid (show mchkR ((q : Int) + 1) c = 0 by rw [mchkR, if_pos hcur, if_pos (by omega)])) w)
    clear hcur ga n0 n1 d0 d1 hp hq m0 m1 hrl
    show Calls Tryd.prog 35 _ w fun x w' => x = .returned (.tuple #[.agg #[.int .i64 ((q : Int) + 1), .string c], .int .i64 0]) ∧ Pushed w w'
    generalize (q : Int) = q at *
    generalize (r : Int) = r at *
    generalize (den : Int) = den at *
    generalize (num : Int) = num at *
    generalize (a : Int) = m at *
    have dm : decide (m < 0) = false := decide_eq_false ka
    have dn : decide (num < 0) = false := decide_eq_false k9
    have kne : (decide (m < 0) != decide (num < 0)) = false := by rw [dm, dn]; rfl
    go_enter Tryd.func35, Tryd.ntmps35
    go_wp2_with fail
    go_at_call 34
    with_reducible refine (CK.out _).mono ?_
    rintro x w1 ⟨rfl, l0, n0, rfl⟩
    go_wp2_with fail
    go_at_call 46
    with_reducible refine (G1.out _).mono ?_
    rintro x w1 ⟨rfl, l1, n1, rfl⟩
    go_wp2_with fail
    go_at_call 46
    with_reducible refine (G2.out _).mono ?_
    rintro x w1 ⟨rfl, l2, n2, rfl⟩
    go_wp2_with fail
    go_at_call 45
    with_reducible refine (MM.out _).mono ?_
    rintro x w1 ⟨rfl, l3, n3, rfl⟩
    go_wp2_with fail
    go_at_call 47
    with_reducible refine (DV.out _).mono ?_
    rintro x w1 ⟨rfl, l4, n4, rfl⟩
    go_wp2_with fail
    go_at_call 48
    with_reducible refine (UP.out _).mono ?_
    rintro x w1 ⟨rfl, l5, n5, rfl⟩
    go_wp2_with fail
    go_at_call 49
    with_reducible refine (VD.out _).mono ?_
    rintro x w1 ⟨rfl, l6, n6, rfl⟩
    go_wp2
    exact bodyPost_ret (v := .tuple #[.agg #[.int .i64 (q + 1), .string c], .int .i64 0]) (by simp [results, Tryd.results35, go_sem]) rfl ⟨rfl, (by repeat (first | with_reducible exact Pushed.refl _ | with_reducible assumption | with_reducible refine Pushed.push ?_ _ | with_reducible refine Pushed.alloc ?_ _ | with_reducible refine Pushed.drewN ?_ _ | with_reducible refine Pushed.drew ?_))⟩
set_option maxRecDepth 20000 in
set_option maxHeartbeats 6400000 in
theorem scale_neg (a num den : Nat) (mode : Int) (c : ByteArray) (hc : c.size ≤ 1000000) (hcur : curP c) (h0 : 1 ≤ a) (ga : a ≤ 4503599627370496) (n0 : 1 ≤ num) (n1 : num ≤ 1099511627776) (d0 : 1 ≤ den) (d1 : den ≤ 1099511627776) (hp : a * num ≤ 4611686018427387904) (hq : a * num / den ≤ 2251799813685248) (m0 : 1 ≤ mode) (m1 : mode ≤ 4) (w : World) :
    Calls Tryd.prog 35 #[.agg #[.int .i64 (-(a : Int)), .string c], .int .i64 (num : Int), .int .i64 (den : Int), .int .i64 mode] w fun x w' => x = .returned (.tuple #[.agg #[.int .i64 (-(scN a num den mode : Int)), .string c], .int .i64 0]) ∧ Pushed w w' := by
  have CK := Lib.hid (fun w => mchk_any (-(a : Int)) c hc (Lib.hid (show mchkR (-(a : Int)) c = 0 by rw [mchkR, if_pos hcur, if_pos (by omega)])) w)
  have G1 := Lib.hid (fun w => mag_neg a h0 (by omega) w)
  have G2 := Lib.hid (fun w => mag_pos num (by omega) w)
  have MM : Hid (∀ w, Calls Tryd.prog 45 #[.int .u64 (a : Int), .int .u64 (num : Int)] w fun x w' => x = .returned (.tuple #[.int .u64 0, .int .u64 ((a * num : Nat) : Int)]) ∧ Pushed w w') := Lib.hid fun w => (Tryd.bits_Mul64 a num (by omega) (by omega) w).mono fun x w' h' => by
    obtain ⟨rfl, rfl⟩ := h'
    rw [Nat.div_eq_of_lt (by omega), Nat.mod_eq_of_lt (by omega)]
    exact ⟨rfl, Pushed.refl _⟩
  have DV := Lib.hid (fun w => div64_lo (a * num) den d0 (by omega) w)
  have hrl : a * num % den < den := Nat.mod_lt _ (by omega)
  obtain ⟨b, hb⟩ : ∃ b, upB (a * num / den) (a * num % den) den mode = b := ⟨_, rfl⟩
  have UP := Lib.hid (fun w => up_any (a * num / den) (a * num % den) den mode (by omega) d1 (Lib.hid hb) w)
  have HS : Hid (scN a num den mode = a * num / den + b2n b) := Lib.hid (by rw [scN, hb])
  rw [HS.out]
  clear hb HS
  generalize a * num = p at *
  generalize p / den = q at *
  generalize p % den = r at *
  have k1 : ¬ (den : Int) < 1 := by omega
  have k2 : ¬ (1099511627776 : Int) < (den : Int) := by omega
  have k3 : ¬ (num : Int) < -1099511627776 := by omega
  have k4 : ¬ (1099511627776 : Int) < (num : Int) := by omega
  have k5 : ¬ mode < 1 := by omega
  have k6 : ¬ 4 < mode := by omega
  have k7 : ¬ (den : Int) ≤ 0 := by omega
  have k8 : ¬ (4503599627370496 : Int) < (q : Int) := by omega
  have k9 : ¬ (num : Int) < 0 := by omega
  have ka : (-(a : Int)) < 0 := by omega
  have hq1 : (q : Int) ≤ 2251799813685248 := by omega
  have hq0 : 0 ≤ (q : Int) := by omega
  have hd0 : 1 ≤ (den : Int) := by omega
  have hd1 : (den : Int) ≤ 1099511627776 := by omega
  cases b
  · have VD := Lib.hid (fun w => valid_ok (-(q : Int)) c hc (Lib.hid (show mchkR (-(q : Int)) c = 0 by rw [mchkR, if_pos hcur, if_pos (by omega)])) w)
    clear hcur ga n0 n1 d0 d1 hp hq m0 m1 hrl h0
    show Calls Tryd.prog 35 _ w fun x w' => x = .returned (.tuple #[.agg #[.int .i64 (-(q : Int)), .string c], .int .i64 0]) ∧ Pushed w w'
    generalize (q : Int) = q at *
    generalize (r : Int) = r at *
    generalize (den : Int) = den at *
    generalize (num : Int) = num at *
    generalize (-(a : Int)) = m at *
    have dm : decide (m < 0) = true := decide_eq_true ka
    have dn : decide (num < 0) = false := decide_eq_false k9
    have kne : (decide (m < 0) != decide (num < 0)) = true := by rw [dm, dn]; rfl
    go_enter Tryd.func35, Tryd.ntmps35
    go_wp2_with fail
    go_at_call 34
    with_reducible refine (CK.out _).mono ?_
    rintro x w1 ⟨rfl, l0, n0, rfl⟩
    go_wp2_with fail
    go_at_call 46
    with_reducible refine (G1.out _).mono ?_
    rintro x w1 ⟨rfl, l1, n1, rfl⟩
    go_wp2_with fail
    go_at_call 46
    with_reducible refine (G2.out _).mono ?_
    rintro x w1 ⟨rfl, l2, n2, rfl⟩
    go_wp2_with fail
    go_at_call 45
    with_reducible refine (MM.out _).mono ?_
    rintro x w1 ⟨rfl, l3, n3, rfl⟩
    go_wp2_with fail
    go_at_call 47
    with_reducible refine (DV.out _).mono ?_
    rintro x w1 ⟨rfl, l4, n4, rfl⟩
    go_wp2_with fail
    go_at_call 48
    with_reducible refine (UP.out _).mono ?_
    rintro x w1 ⟨rfl, l5, n5, rfl⟩
    go_wp2_with fail
    go_at_call 49
    with_reducible refine (VD.out _).mono ?_
    rintro x w1 ⟨rfl, l6, n6, rfl⟩
    go_wp2
    exact bodyPost_ret (v := .tuple #[.agg #[.int .i64 (-q), .string c], .int .i64 0]) (by simp [results, Tryd.results35, go_sem]) rfl ⟨rfl, (by repeat (first | with_reducible exact Pushed.refl _ | with_reducible assumption | with_reducible refine Pushed.push ?_ _ | with_reducible refine Pushed.alloc ?_ _ | with_reducible refine Pushed.drewN ?_ _ | with_reducible refine Pushed.drew ?_))⟩
  · have VD := Lib.hid (fun w => valid_ok (-((q : Int) + 1)) c hc (Lib.hid (show mchkR (-((q : Int) + 1)) c = 0 by rw [mchkR, if_pos hcur, if_pos (by omega)])) w)
    clear hcur ga n0 n1 d0 d1 hp hq m0 m1 hrl h0
    show Calls Tryd.prog 35 _ w fun x w' => x = .returned (.tuple #[.agg #[.int .i64 (-((q : Int) + 1)), .string c], .int .i64 0]) ∧ Pushed w w'
    generalize (q : Int) = q at *
    generalize (r : Int) = r at *
    generalize (den : Int) = den at *
    generalize (num : Int) = num at *
    generalize (-(a : Int)) = m at *
    have dm : decide (m < 0) = true := decide_eq_true ka
    have dn : decide (num < 0) = false := decide_eq_false k9
    have kne : (decide (m < 0) != decide (num < 0)) = true := by rw [dm, dn]; rfl
    go_enter Tryd.func35, Tryd.ntmps35
    go_wp2_with fail
    go_at_call 34
    with_reducible refine (CK.out _).mono ?_
    rintro x w1 ⟨rfl, l0, n0, rfl⟩
    go_wp2_with fail
    go_at_call 46
    with_reducible refine (G1.out _).mono ?_
    rintro x w1 ⟨rfl, l1, n1, rfl⟩
    go_wp2_with fail
    go_at_call 46
    with_reducible refine (G2.out _).mono ?_
    rintro x w1 ⟨rfl, l2, n2, rfl⟩
    go_wp2_with fail
    go_at_call 45
    with_reducible refine (MM.out _).mono ?_
    rintro x w1 ⟨rfl, l3, n3, rfl⟩
    go_wp2_with fail
    go_at_call 47
    with_reducible refine (DV.out _).mono ?_
    rintro x w1 ⟨rfl, l4, n4, rfl⟩
    go_wp2_with fail
    go_at_call 48
    with_reducible refine (UP.out _).mono ?_
    rintro x w1 ⟨rfl, l5, n5, rfl⟩
    go_wp2_with fail
    go_at_call 49
    with_reducible refine (VD.out _).mono ?_
    rintro x w1 ⟨rfl, l6, n6, rfl⟩
    go_wp2
    exact bodyPost_ret (v := .tuple #[.agg #[.int .i64 (-(q + 1)), .string c], .int .i64 0]) (by simp [results, Tryd.results35, go_sem]) rfl ⟨rfl, (by repeat (first | with_reducible exact Pushed.refl _ | with_reducible assumption | with_reducible refine Pushed.push ?_ _ | with_reducible refine Pushed.alloc ?_ _ | with_reducible refine Pushed.drewN ?_ _ | with_reducible refine Pushed.drew ?_))⟩
end Go.Proofs.YtobnkfgikafanaaDoor

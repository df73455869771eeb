/-
  CONTRACTS of rates: Inverse, products.
-/
import Derived.Test.YtobnkfgikafanaaDoorR3
import Derived.Test.YtobnkfgikafanaaDoorKShelf
namespace Go.Proofs.YtobnkfgikafanaaDoor
open Go.RowKit
set_option linter.unusedVariables false
set_option linter.unusedSimpArgs false
set_option maxHeartbeats 1600000 in
theorem inv_err (f t : ByteArray) (n d : Int) (hf : f.size ≤ 1000000) (ht : t.size ≤ 1000000) {e : Int} (H : Hid (chkR f t n d = e)) (he : (e != 0) = true) (w : World) : Calls Tryd.prog 19 #[.agg #[.string f, .string t, .int .i64 n, .int .i64 d]] w fun x w' => x = .returned (.tuple #[.agg #[.string ⟨#[]⟩, .string ⟨#[]⟩, .int .i64 0, .int .i64 0], .int .i64 e]) ∧ Pushed w w' := by
  have CK := Lib.hid (fun w => chk_any f t n d hf ht H w)
  go_enter Tryd.func19, Tryd.ntmps19
  go_wp2_with fail
  go_at_call 13
  with_reducible refine (CK.out _).mono ?_
  rintro x w1 ⟨rfl, l0, n0, rfl⟩
  go_wp2
  exact bodyPost_ret (v := .tuple #[.agg #[.string ⟨#[]⟩, .string ⟨#[]⟩, .int .i64 0, .int .i64 0], .int .i64 e]) (by simp [results, Tryd.results19, go_sem]) rfl ⟨rfl, (by repeat (first | with_reducible exact Pushed.refl _ | with_reducible assumption | with_reducible refine Pushed.push ?_ _ | with_reducible refine Pushed.alloc ?_ _ | with_reducible refine Pushed.drewN ?_ _ | with_reducible refine Pushed.drew ?_))⟩
set_option maxHeartbeats 1600000 in
theorem inv_ok (f t : ByteArray) (n d : Nat) (hf : f.size ≤ 1000000) (ht : t.size ≤ 1000000) (H : Hid (chkR f t n d = 0)) (hn : 1 ≤ n) (hd : 1 ≤ d) (gn : (n : Int) ≤ 9223372036854775807) (gd : (d : Int) ≤ 9223372036854775807) (w : World) : Calls Tryd.prog 19 #[.agg #[.string f, .string t, .int .i64 (n : Int), .int .i64 (d : Int)]] w fun x w' => x = .returned (.tuple #[.agg #[.string t, .string f, .int .i64 (rdN d n : Int), .int .i64 (rdD d n : Int)], .int .i64 0]) ∧ Pushed w w' := by
  have CK := Lib.hid (fun w => chk_any f t n d hf ht H w)
  have RD := Lib.hid (fun w => red_ok d n hd hn gd gn w)
  clear gn gd
  generalize rdN d n = p at *
  generalize rdD d n = q at *
  go_enter Tryd.func19, Tryd.ntmps19
  go_wp2_with fail
  go_at_call 13
  with_reducible refine (CK.out _).mono ?_
  rintro x w1 ⟨rfl, l0, n0, rfl⟩
  go_wp2_with fail
  go_at_call 11
  with_reducible refine (RD.out _).mono ?_
  rintro x w1 ⟨rfl, l1, n1, rfl⟩
  go_wp2
  exact bodyPost_ret (v := .tuple #[.agg #[.string t, .string f, .int .i64 (p : Int), .int .i64 (q : Int)], .int .i64 0]) (by simp [results, Tryd.results19, go_sem]) rfl ⟨rfl, (by repeat (first | with_reducible exact Pushed.refl _ | with_reducible assumption | with_reducible refine Pushed.push ?_ _ | with_reducible refine Pushed.alloc ?_ _ | with_reducible refine Pushed.drewN ?_ _ | with_reducible refine Pushed.drew ?_))⟩
set_option maxHeartbeats 1600000 in
theorem rinv_err (f t : ByteArray) (n d : Int) (hf : f.size ≤ 1000000) (ht : t.size ≤ 1000000) {e : Int} (H : Hid (chkR f t n d = e)) (he : (e != 0) = true) (w : World) : Calls Tryd.prog 20 #[.agg #[.string f, .string t, .int .i64 n, .int .i64 d]] w fun x w' => x = .returned (.tuple #[.agg #[.string ⟨#[]⟩, .string ⟨#[]⟩, .int .i64 0, .int .i64 0], .int .i64 e]) ∧ Pushed w w' := by
  have CK := Lib.hid (fun w => rchk_any f t n d hf ht H w)
  go_enter Tryd.func20, Tryd.ntmps20
  go_wp2_with fail
  go_at_call 14
  with_reducible refine (CK.out _).mono ?_
  rintro x w1 ⟨rfl, l0, n0, rfl⟩
  go_wp2
  exact bodyPost_ret (v := .tuple #[.agg #[.string ⟨#[]⟩, .string ⟨#[]⟩, .int .i64 0, .int .i64 0], .int .i64 e]) (by simp [results, Tryd.results20, go_sem]) rfl ⟨rfl, (by repeat (first | with_reducible exact Pushed.refl _ | with_reducible assumption | with_reducible refine Pushed.push ?_ _ | with_reducible refine Pushed.alloc ?_ _ | with_reducible refine Pushed.drewN ?_ _ | with_reducible refine Pushed.drew ?_))⟩
set_option maxHeartbeats 1600000 in
theorem rinv_ok (f t : ByteArray) (n d : Nat) (hf : f.size ≤ 1000000) (ht : t.size ≤ 1000000) (H : Hid (chkR f t n d = 0)) (hn : 1 ≤ n) (hd : 1 ≤ d) (gn : (n : Int) ≤ 9223372036854775807) (gd : (d : Int) ≤ 9223372036854775807) (w : World) : Calls Tryd.prog 20 #[.agg #[.string f, .string t, .int .i64 (n : Int), .int .i64 (d : Int)]] w fun x w' => x = .returned (.tuple #[.agg #[.string t, .string f, .int .i64 (rdN d n : Int), .int .i64 (rdD d n : Int)], .int .i64 0]) ∧ Pushed w w' := by
  have CK := Lib.hid (fun w => rchk_any f t n d hf ht H w)
  have RD := Lib.hid (fun w => rred_ok d n hd hn gd gn w)
  clear gn gd
  generalize rdN d n = p at *
  generalize rdD d n = q at *
  go_enter Tryd.func20, Tryd.ntmps20
  go_wp2_with fail
  go_at_call 14
  with_reducible refine (CK.out _).mono ?_
  rintro x w1 ⟨rfl, l0, n0, rfl⟩
  go_wp2_with fail
  go_at_call 12
  with_reducible refine (RD.out _).mono ?_
  rintro x w1 ⟨rfl, l1, n1, rfl⟩
  go_wp2
  exact bodyPost_ret (v := .tuple #[.agg #[.string t, .string f, .int .i64 (p : Int), .int .i64 (q : Int)], .int .i64 0]) (by simp [results, Tryd.results20, go_sem]) rfl ⟨rfl, (by repeat (first | with_reducible exact Pushed.refl _ | with_reducible assumption | with_reducible refine Pushed.push ?_ _ | with_reducible refine Pushed.alloc ?_ _ | with_reducible refine Pushed.drewN ?_ _ | with_reducible refine Pushed.drew ?_))⟩
theorem times_ok (a c : Nat) (h : a * c ≤ 1099511627776) (ha : a ≤ 1099511627776) (hc : c ≤ 1099511627776) (w : World) : Calls Tryd.prog 54 #[.int .i64 (a : Int), .int .i64 (c : Int)] w fun x w' => x = .returned (.tuple #[.int .i64 ((a * c : Nat) : Int), .int .i64 0]) ∧ Pushed w w' := by
  have M : Hid (∀ w, Calls Tryd.prog 45 #[.int .u64 (a : Int), .int .u64 (c : Int)] w fun x w' => x = .returned (.tuple #[.int .u64 0, .int .u64 ((a * c : Nat) : Int)]) ∧ Pushed w w') := Lib.hid fun w => (Tryd.bits_Mul64 a c (by omega) (by omega) w).mono fun x w' h' => by
    obtain ⟨rfl, rfl⟩ := h'
    rw [Nat.div_eq_of_lt (by omega), Nat.mod_eq_of_lt (by omega)]
    exact ⟨rfl, Pushed.refl _⟩
  generalize a * c = p at *
  have hp : (p : Int) ≤ 1099511627776 := by omega
  go_enter Tryd.func54, Tryd.ntmps54
  go_wp2_with fail
  go_at_call 45
  with_reducible refine (M.out _).mono ?_
  rintro x w1 ⟨rfl, l0, n0, rfl⟩
  go_wp2
  go_ret2
  exact ⟨rfl, (by repeat (first | with_reducible exact Pushed.refl _ | with_reducible assumption | with_reducible refine Pushed.push ?_ _ | with_reducible refine Pushed.alloc ?_ _ | with_reducible refine Pushed.drewN ?_ _ | with_reducible refine Pushed.drew ?_))⟩
theorem times_big (a c : Nat) (h : ¬ a * c ≤ 1099511627776) (ha : a ≤ 1099511627776) (hc : c ≤ 1099511627776) (w : World) : Calls Tryd.prog 54 #[.int .i64 (a : Int), .int .i64 (c : Int)] w fun x w' => x = .returned (.tuple #[.int .i64 0, .int .i64 4]) ∧ Pushed w w' := by
  have M : Hid (∀ w, Calls Tryd.prog 45 #[.int .u64 (a : Int), .int .u64 (c : Int)] w fun x w' => x = .returned (.tuple #[.int .u64 ((a * c / 18446744073709551616 : Nat) : Int), .int .u64 ((a * c % 18446744073709551616 : Nat) : Int)]) ∧ Pushed w w') := Lib.hid fun w => (Tryd.bits_Mul64 a c (by omega) (by omega) w).mono fun x w' h' => by
    obtain ⟨rfl, rfl⟩ := h'
    exact ⟨rfl, Pushed.refl _⟩
  have hor : 0 < a * c / 18446744073709551616 ∨ a * c / 18446744073709551616 = 0 ∧ 1099511627776 < a * c % 18446744073709551616 := by omega
  generalize a * c / 18446744073709551616 = p at *
  generalize a * c % 18446744073709551616 = q at *
  have ha2 : (a : Int) ≤ 1099511627776 := by omega
  have hc2 : (c : Int) ≤ 1099511627776 := by omega
  clear h ha hc
  rcases hor with hp | ⟨rfl, hq⟩
  · have hp2 : (0 : Int) < (p : Int) := by omega
    go_enter Tryd.func54, Tryd.ntmps54
    go_wp2_with fail
    go_at_call 45
    with_reducible refine (M.out _).mono ?_
    rintro x w1 ⟨rfl, l0, n0, rfl⟩
    go_wp2
    go_ret2
    exact ⟨rfl, (by repeat (first | with_reducible exact Pushed.refl _ | with_reducible assumption | with_reducible refine Pushed.push ?_ _ | with_reducible refine Pushed.alloc ?_ _ | with_reducible refine Pushed.drewN ?_ _ | with_reducible refine Pushed.drew ?_))⟩
  · have hq2 : (1099511627776 : Int) < (q : Int) := by omega
    go_enter Tryd.func54, Tryd.ntmps54
    go_wp2_with fail
    go_at_call 45
    with_reducible refine (M.out _).mono ?_
    rintro x w1 ⟨rfl, l0, n0, rfl⟩
    go_wp2
    go_ret2
    exact ⟨rfl, (by repeat (first | with_reducible exact Pushed.refl _ | with_reducible assumption | with_reducible refine Pushed.push ?_ _ | with_reducible refine Pushed.alloc ?_ _ | with_reducible refine Pushed.drewN ?_ _ | with_reducible refine Pushed.drew ?_))⟩
end Go.Proofs.YtobnkfgikafanaaDoor

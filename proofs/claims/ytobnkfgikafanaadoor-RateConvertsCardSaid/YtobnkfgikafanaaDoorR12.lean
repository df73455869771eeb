/-
  CONTRACTS of rates: conversion.
-/
import Derived.Test.YtobnkfgikafanaaDoorR11
namespace Go.Proofs.YtobnkfgikafanaaDoor
open Go.RowKit
set_option linter.unusedVariables false
set_option linter.unusedSimpArgs false
set_option maxRecDepth 20000 in
set_option maxHeartbeats 3200000 in
theorem scale_mode0 (m : Int) (num den : Nat) (mode : Int) (c : ByteArray) (hc : c.size ≤ 1000000) (H : Hid (mchkR m c = 0)) (n0 : 1 ≤ num) (n1 : num ≤ 1099511627776) (d0 : 1 ≤ den) (d1 : den ≤ 1099511627776) (h : mode < 1) (w : World) :
    Calls Tryd.prog 35 #[.agg #[.int .i64 m, .string c], .int .i64 (num : Int), .int .i64 (den : Int), .int .i64 mode] w fun x w' => x = .returned (.tuple #[.agg #[.int .i64 0, .string ⟨#[]⟩], .int .i64 4]) ∧ Pushed w w' := by
  have CK := Lib.hid (fun w => mchk_any m c hc H w)
  have k1 : ¬ (den : Int) < 1 := by omega
  have k2 : ¬ (1099511627776 : Int) < (den : Int) := by omega
  have k3 : ¬ (num : Int) < -1099511627776 := by omega
  have k4 : ¬ (1099511627776 : Int) < (num : Int) := by omega
  clear n0 n1 d0 d1 H
  generalize (den : Int) = den at *
  generalize (num : Int) = num at *
  go_enter Tryd.func35, Tryd.ntmps35
  go_wp2_with fail
  go_at_call 34
  with_reducible refine (CK.out _).mono ?_
  rintro x w1 ⟨rfl, l0, n0, rfl⟩
  go_wp2
  exact bodyPost_ret (v := .tuple #[.agg #[.int .i64 0, .string ⟨#[]⟩], .int .i64 4]) (by simp [results, Tryd.results35, go_sem]) rfl ⟨rfl, (by repeat (first | with_reducible exact Pushed.refl _ | with_reducible assumption | with_reducible refine Pushed.push ?_ _ | with_reducible refine Pushed.alloc ?_ _ | with_reducible refine Pushed.drewN ?_ _ | with_reducible refine Pushed.drew ?_))⟩
set_option maxRecDepth 20000 in
set_option maxHeartbeats 3200000 in
theorem scale_mode1 (m : Int) (num den : Nat) (mode : Int) (c : ByteArray) (hc : c.size ≤ 1000000) (H : Hid (mchkR m c = 0)) (n0 : 1 ≤ num) (n1 : num ≤ 1099511627776) (d0 : 1 ≤ den) (d1 : den ≤ 1099511627776) (h : 4 < mode) (w : World) :
    Calls Tryd.prog 35 #[.agg #[.int .i64 m, .string c], .int .i64 (num : Int), .int .i64 (den : Int), .int .i64 mode] w fun x w' => x = .returned (.tuple #[.agg #[.int .i64 0, .string ⟨#[]⟩], .int .i64 4]) ∧ Pushed w w' := by
  have CK := Lib.hid (fun w => mchk_any m c hc H w)
  have k1 : ¬ (den : Int) < 1 := by omega
  have k2 : ¬ (1099511627776 : Int) < (den : Int) := by omega
  have k3 : ¬ (num : Int) < -1099511627776 := by omega
  have k4 : ¬ (1099511627776 : Int) < (num : Int) := by omega
  clear n0 n1 d0 d1 H
  generalize (den : Int) = den at *
  generalize (num : Int) = num at *
  go_enter Tryd.func35, Tryd.ntmps35
  go_wp2_with fail
  go_at_call 34
  with_reducible refine (CK.out _).mono ?_
  rintro x w1 ⟨rfl, l0, n0, rfl⟩
  go_wp2
  exact bodyPost_ret (v := .tuple #[.agg #[.int .i64 0, .string ⟨#[]⟩], .int .i64 4]) (by simp [results, Tryd.results35, go_sem]) rfl ⟨rfl, (by repeat (first | with_reducible exact Pushed.refl _ | with_reducible assumption | with_reducible refine Pushed.push ?_ _ | with_reducible refine Pushed.alloc ?_ _ | with_reducible refine Pushed.drewN ?_ _ | with_reducible refine Pushed.drew ?_))⟩
set_option maxHeartbeats 1600000 in
theorem conv_e1 (m : Int) (c f t : ByteArray) (n d mode : Int) (hc : c.size ≤ 1000000) (hf : f.size ≤ 1000000) (ht : t.size ≤ 1000000) {e : Int} (H : Hid (mchkR m c = e)) (he : (e != 0) = true) (w : World) : Calls Tryd.prog 17 #[.agg #[.int .i64 m, .string c], .agg #[.string f, .string t, .int .i64 n, .int .i64 d], .int .i64 mode] w fun x w' => x = .returned (.tuple #[.agg #[.int .i64 0, .string ⟨#[]⟩], .int .i64 e]) ∧ Pushed w w' := by
  have C1 := Lib.hid (fun w => mchk_any m c hc H w)
  go_enter Tryd.func17, Tryd.ntmps17
  go_wp2_with fail
  go_at_call 34
  with_reducible refine (C1.out _).mono ?_
  rintro x w1 ⟨rfl, l0, n0, rfl⟩
  go_wp2
  exact bodyPost_ret (v := .tuple #[.agg #[.int .i64 0, .string ⟨#[]⟩], .int .i64 e]) (by simp [results, Tryd.results17, go_sem]) rfl ⟨rfl, (by repeat (first | with_reducible exact Pushed.refl _ | with_reducible assumption | with_reducible refine Pushed.push ?_ _ | with_reducible refine Pushed.alloc ?_ _ | with_reducible refine Pushed.drewN ?_ _ | with_reducible refine Pushed.drew ?_))⟩
set_option maxHeartbeats 1600000 in
theorem conv_e2 (m : Int) (c f t : ByteArray) (n d mode : Int) (hc : c.size ≤ 1000000) (hf : f.size ≤ 1000000) (ht : t.size ≤ 1000000) (H1 : Hid (mchkR m c = 0)) {e : Int} (H : Hid (chkR f t n d = e)) (he : (e != 0) = true) (w : World) : Calls Tryd.prog 17 #[.agg #[.int .i64 m, .string c], .agg #[.string f, .string t, .int .i64 n, .int .i64 d], .int .i64 mode] w fun x w' => x = .returned (.tuple #[.agg #[.int .i64 0, .string ⟨#[]⟩], .int .i64 e]) ∧ Pushed w w' := by
  have C1 := Lib.hid (fun w => mchk_any m c hc H1 w)
  have C2 := Lib.hid (fun w => chk_any f t n d hf ht H w)
  go_enter Tryd.func17, Tryd.ntmps17
  go_wp2_with fail
  go_at_call 34
  with_reducible refine (C1.out _).mono ?_
  rintro x w1 ⟨rfl, l0, n0, rfl⟩
  go_wp2_with fail
  go_at_call 13
  with_reducible refine (C2.out _).mono ?_
  rintro x w1 ⟨rfl, l1, n1, rfl⟩
  go_wp2
  exact bodyPost_ret (v := .tuple #[.agg #[.int .i64 0, .string ⟨#[]⟩], .int .i64 e]) (by simp [results, Tryd.results17, go_sem]) rfl ⟨rfl, (by repeat (first | with_reducible exact Pushed.refl _ | with_reducible assumption | with_reducible refine Pushed.push ?_ _ | with_reducible refine Pushed.alloc ?_ _ | with_reducible refine Pushed.drewN ?_ _ | with_reducible refine Pushed.drew ?_))⟩
set_option maxHeartbeats 1600000 in
theorem conv_e3 (m : Int) (c f t : ByteArray) (n d mode : Int) (hc : c.size ≤ 1000000) (hf : f.size ≤ 1000000) (ht : t.size ≤ 1000000) (H1 : Hid (mchkR m c = 0)) (H : Hid (chkR f t n d = 0)) (hne : c ≠ f) (w : World) : Calls Tryd.prog 17 #[.agg #[.int .i64 m, .string c], .agg #[.string f, .string t, .int .i64 n, .int .i64 d], .int .i64 mode] w fun x w' => x = .returned (.tuple #[.agg #[.int .i64 0, .string ⟨#[]⟩], .int .i64 11]) ∧ Pushed w w' := by
  have C1 := Lib.hid (fun w => mchk_any m c hc H1 w)
  have C2 := Lib.hid (fun w => chk_any f t n d hf ht H w)
  have hs1 := str_ne hne
  have hs2 : (c.toList != f.toList) = true := by simpa [bne] using hs1
  go_enter Tryd.func17, Tryd.ntmps17
  go_wp2_with fail
  go_at_call 34
  with_reducible refine (C1.out _).mono ?_
  rintro x w1 ⟨rfl, l0, n0, rfl⟩
  go_wp2_with fail
  go_at_call 13
  with_reducible refine (C2.out _).mono ?_
  rintro x w1 ⟨rfl, l1, n1, rfl⟩
  go_wp2
  exact bodyPost_ret (v := .tuple #[.agg #[.int .i64 0, .string ⟨#[]⟩], .int .i64 11]) (by simp [results, Tryd.results17, go_sem]) rfl ⟨rfl, (by repeat (first | with_reducible exact Pushed.refl _ | with_reducible assumption | with_reducible refine Pushed.push ?_ _ | with_reducible refine Pushed.alloc ?_ _ | with_reducible refine Pushed.drewN ?_ _ | with_reducible refine Pushed.drew ?_))⟩
set_option maxHeartbeats 1600000 in
theorem conv_e4 (m : Int) (c t : ByteArray) (n d mode : Int) (hc : c.size ≤ 1000000) (ht : t.size ≤ 1000000) (H1 : Hid (mchkR m c = 0)) (H : Hid (chkR c t n d = 0)) {e : Int} (he : (e != 0) = true) (SC : Hid (∀ w, Calls Tryd.prog 35 #[.agg #[.int .i64 m, .string c], .int .i64 n, .int .i64 d, .int .i64 mode] w fun x w' => x = .returned (.tuple #[.agg #[.int .i64 0, .string ⟨#[]⟩], .int .i64 e]) ∧ Pushed w w')) (w : World) : Calls Tryd.prog 17 #[.agg #[.int .i64 m, .string c], .agg #[.string c, .string t, .int .i64 n, .int .i64 d], .int .i64 mode] w fun x w' => x = .returned (.tuple #[.agg #[.int .i64 0, .string ⟨#[]⟩], .int .i64 e]) ∧ Pushed w w' := by
  have C1 := Lib.hid (fun w => mchk_any m c hc H1 w)
  have C2 := Lib.hid (fun w => chk_any c t n d hc ht H w)
  go_enter Tryd.func17, Tryd.ntmps17
  go_wp2_with fail
  go_at_call 34
  with_reducible refine (C1.out _).mono ?_
  rintro x w1 ⟨rfl, l0, n0, rfl⟩
  go_wp2_with fail
  go_at_call 13
  with_reducible refine (C2.out _).mono ?_
  rintro x w1 ⟨rfl, l1, n1, rfl⟩
  go_wp2_with fail
  go_at_call 35
  with_reducible refine (SC.out _).mono ?_
  rintro x w1 ⟨rfl, l2, n2, rfl⟩
  go_wp2
  exact bodyPost_ret (v := .tuple #[.agg #[.int .i64 0, .string ⟨#[]⟩], .int .i64 e]) (by simp [results, Tryd.results17, go_sem]) rfl ⟨rfl, (by repeat (first | with_reducible exact Pushed.refl _ | with_reducible assumption | with_reducible refine Pushed.push ?_ _ | with_reducible refine Pushed.alloc ?_ _ | with_reducible refine Pushed.drewN ?_ _ | with_reducible refine Pushed.drew ?_))⟩
set_option maxHeartbeats 1600000 in
theorem conv_ok (m : Int) (c t : ByteArray) (n d mode : Int) (hc : c.size ≤ 1000000) (ht : t.size ≤ 1000000) (H1 : Hid (mchkR m c = 0)) (H : Hid (chkR c t n d = 0)) {y : Int} (SC : Hid (∀ w, Calls Tryd.prog 35 #[.agg #[.int .i64 m, .string c], .int .i64 n, .int .i64 d, .int .i64 mode] w fun x w' => x = .returned (.tuple #[.agg #[.int .i64 y, .string c], .int .i64 0]) ∧ Pushed w w')) (w : World) : Calls Tryd.prog 17 #[.agg #[.int .i64 m, .string c], .agg #[.string c, .string t, .int .i64 n, .int .i64 d], .int .i64 mode] w fun x w' => x = .returned (.tuple #[.agg #[.int .i64 y, .string t], .int .i64 0]) ∧ Pushed w w' := by
  have C1 := Lib.hid (fun w => mchk_any m c hc H1 w)
  have C2 := Lib.hid (fun w => chk_any c t n d hc ht H w)
  go_enter Tryd.func17, Tryd.ntmps17
  go_wp2_with fail
  go_at_call 34
  with_reducible refine (C1.out _).mono ?_
  rintro x w1 ⟨rfl, l0, n0, rfl⟩
  go_wp2_with fail
  go_at_call 13
  with_reducible refine (C2.out _).mono ?_
  rintro x w1 ⟨rfl, l1, n1, rfl⟩
  go_wp2_with fail
  go_at_call 35
  with_reducible refine (SC.out _).mono ?_
  rintro x w1 ⟨rfl, l2, n2, rfl⟩
  go_wp2
  exact bodyPost_ret (v := .tuple #[.agg #[.int .i64 y, .string t], .int .i64 0]) (by simp [results, Tryd.results17, go_sem]) rfl ⟨rfl, (by repeat (first | with_reducible exact Pushed.refl _ | with_reducible assumption | with_reducible refine Pushed.push ?_ _ | with_reducible refine Pushed.alloc ?_ _ | with_reducible refine Pushed.drewN ?_ _ | with_reducible refine Pushed.drew ?_))⟩
end Go.Proofs.YtobnkfgikafanaaDoor

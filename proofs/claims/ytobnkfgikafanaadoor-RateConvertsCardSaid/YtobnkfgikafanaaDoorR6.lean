/-
  CONTRACTS of rates: products of fractions.
-/
import Derived.Test.YtobnkfgikafanaaDoorR5
namespace Go.Proofs.YtobnkfgikafanaaDoor
open Go.RowKit
set_option linter.unusedVariables false
set_option linter.unusedSimpArgs false
set_option maxRecDepth 8000 in
set_option maxHeartbeats 3200000 in
theorem rprod_ok (a b c d : Nat) (ha : 1 ≤ a) (hb : 1 ≤ b) (hc : 1 ≤ c) (hd : 1 ≤ d) (ga : a ≤ 1099511627776) (gb : b ≤ 1099511627776) (gc : c ≤ 1099511627776) (gd : d ≤ 1099511627776) (h : prdOk a b c d) (w : World) : Calls Tryd.prog 39 #[.int .i64 (a : Int), .int .i64 (b : Int), .int .i64 (c : Int), .int .i64 (d : Int)] w fun x w' => x = .returned (.tuple #[.int .i64 (prdN a b c d : Int), .int .i64 (prdD a b c d : Int), .bool true]) ∧ Pushed w w' := by
  have p1 := rdN_pos (b := b) ha
  have p2 := rdD_pos ha hb
  have p3 := rdN_pos (b := d) hc
  have p4 := rdD_pos hc hd
  have l1 := rdN_le a b
  have l2 := rdD_le a b
  have l3 := rdN_le c d
  have l4 := rdD_le c d
  obtain ⟨⟨q1, u1⟩, ⟨q2, u2⟩, ⟨q3, u3⟩, ⟨q4, u4⟩⟩ := prd_bd ha hb hc hd ga gb gc gd
  have R1 := Lib.hid (fun w => rred_ok a b ha hb (by omega) (by omega) w)
  have R2 := Lib.hid (fun w => rred_ok c d hc hd (by omega) (by omega) w)
  have R3 := Lib.hid (fun w => rred_ok (rdN a b) (rdD c d) p1 p4 (by omega) (by omega) w)
  have R4 := Lib.hid (fun w => rred_ok (rdN c d) (rdD a b) p3 p2 (by omega) (by omega) w)
  have ea : (prd a b c d).a = rdN (rdN a b) (rdD c d) := rfl
  have eb : (prd a b c d).b = rdD (rdN c d) (rdD a b) := rfl
  have ec : (prd a b c d).c = rdN (rdN c d) (rdD a b) := rfl
  have ed : (prd a b c d).d = rdD (rdN a b) (rdD c d) := rfl
  obtain ⟨h1, h2⟩ := h
  unfold prdN prdD
  rw [ea, ec] at h1 ⊢
  rw [eb, ed] at h2 ⊢
  rw [ea] at q1 u1
  rw [eb] at q2 u2
  rw [ec] at q3 u3
  rw [ed] at q4 u4
  clear ea eb ec ed
  generalize rdN (rdN a b) (rdD c d) = A at *
  generalize rdD (rdN c d) (rdD a b) = B at *
  generalize rdN (rdN c d) (rdD a b) = C at *
  generalize rdD (rdN a b) (rdD c d) = D at *
  generalize rdN a b = a1 at *
  generalize rdD a b = b1 at *
  generalize rdN c d = c1 at *
  generalize rdD c d = d1 at *
  clear ha hb hc hd ga gb gc gd p1 p2 p3 p4 l1 l2 l3 l4
  obtain ⟨Q1, hQ1⟩ : ∃ Q, 1099511627776 / C = Q := ⟨_, rfl⟩
  obtain ⟨Q2, hQ2⟩ : ∃ Q, 1099511627776 / D = Q := ⟨_, rfl⟩
  have Q1e : (1099511627776 : Int) / (C : Int) = (Q1 : Int) := by rw [← hQ1]; rfl
  have Q2e : (1099511627776 : Int) / (D : Int) = (Q2 : Int) := by rw [← hQ2]; rfl
  have k1 : Q1 < A ↔ ¬ A * C ≤ 1099511627776 := by rw [← hQ1, Nat.div_lt_iff_lt_mul (by omega)]; omega
  have k2 : Q2 < B ↔ ¬ B * D ≤ 1099511627776 := by rw [← hQ2, Nat.div_lt_iff_lt_mul (by omega)]; omega
  have v1 : Q1 ≤ 1099511627776 := by rw [← hQ1]; exact Nat.div_le_self _ _
  have v2 : Q2 ≤ 1099511627776 := by rw [← hQ2]; exact Nat.div_le_self _ _
  have nC : ¬ (C : Int) = 0 := by omega
  have eC : ((C : Int) == 0) = false := by simp; omega
  have tC : (1099511627776 : Int).tdiv (C : Int) = (Q1 : Int) := by rw [Int.tdiv_eq_ediv_of_nonneg (by omega)]; exact Q1e
  have sC : (1099511627776 : Int) / (C : Int) = (Q1 : Int) := Q1e
  have wC : wrap64 (Q1 : Int) = (Q1 : Int) := IntWalk.wrap64_in _ (by omega)
  have nD : ¬ (D : Int) = 0 := by omega
  have eD : ((D : Int) == 0) = false := by simp; omega
  have tD : (1099511627776 : Int).tdiv (D : Int) = (Q2 : Int) := by rw [Int.tdiv_eq_ediv_of_nonneg (by omega)]; exact Q2e
  have sD : (1099511627776 : Int) / (D : Int) = (Q2 : Int) := Q2e
  have wD : wrap64 (Q2 : Int) = (Q2 : Int) := IntWalk.wrap64_in _ (by omega)
  have j1 : ¬ Q1 < A := fun hx => k1.1 hx h1
  have j2 : ¬ Q2 < B := fun hx => k2.1 hx h2
  have m1 : (A : Int) * (C : Int) = ((A * C : Nat) : Int) := by push_cast; rfl
  have m2 : (B : Int) * (D : Int) = ((B * D : Nat) : Int) := by push_cast; rfl
  generalize A * C = p at *
  generalize B * D = q at *
  have x1 := Lib.hid (show wrap64 (p : Int) = (p : Int) from IntWalk.wrap64_in _ (by omega))
  have x2 := Lib.hid (show wrap64 (q : Int) = (q : Int) from IntWalk.wrap64_in _ (by omega))
  clear hQ1 hQ2 k1 k2 Q1e Q2e
  go_enter Tryd.func39, Tryd.ntmps39
  go_wp2_with fail
  go_at_call 12
  with_reducible refine (R1.out _).mono ?_
  rintro x w1 ⟨rfl, l0, n0, rfl⟩
  go_wp2_with fail
  go_at_call 12
  with_reducible refine (R2.out _).mono ?_
  rintro x w1 ⟨rfl, l1, n1, rfl⟩
  go_wp2_with fail
  go_at_call 12
  with_reducible refine (R3.out _).mono ?_
  rintro x w1 ⟨rfl, l2, n2, rfl⟩
  go_wp2_with fail
  go_at_call 12
  with_reducible refine (R4.out _).mono ?_
  rintro x w1 ⟨rfl, l3, n3, rfl⟩
  clear u1 u2 u3 u4 v1 v2 h1 h2 q1 q2 q3 q4
  go_wp2
  go_ret3
  exact ⟨(by show Ending.returned (.tuple #[.int .i64 (wrap64 (p : Int)), .int .i64 (wrap64 (q : Int)), .bool true]) = _; rw [x1.out, x2.out]), (by repeat (first | with_reducible exact Pushed.refl _ | with_reducible assumption | with_reducible refine Pushed.push ?_ _ | with_reducible refine Pushed.alloc ?_ _ | with_reducible refine Pushed.drewN ?_ _ | with_reducible refine Pushed.drew ?_))⟩
end Go.Proofs.YtobnkfgikafanaaDoor

/-
  CONTRACTS of rates: products of fractions.
-/
import Derived.Test.YtobnkfgikafanaaDoorR4
namespace Go.Proofs.YtobnkfgikafanaaDoor
open Go.RowKit
set_option linter.unusedVariables false
set_option linter.unusedSimpArgs false
def M40 : Nat := 1099511627776
/-- The parts of a product are permitted. -/
def prdOk (a b c d : Nat) : Prop := (prd a b c d).a * (prd a b c d).c ≤ 1099511627776 ∧ (prd a b c d).b * (prd a b c d).d ≤ 1099511627776
instance (a b c d : Nat) : Decidable (prdOk a b c d) := by unfold prdOk; exact inferInstance
def prdN (a b c d : Nat) : Nat := (prd a b c d).a * (prd a b c d).c
def prdD (a b c d : Nat) : Nat := (prd a b c d).b * (prd a b c d).d
set_option maxRecDepth 8000 in
set_option maxHeartbeats 3200000 in
theorem prod_ok (f t : ByteArray) (a b c d : Nat) (ha : 1 ≤ a) (hb : 1 ≤ b) (hc : 1 ≤ c) (hd : 1 ≤ d) (ga : a ≤ 1099511627776) (gb : b ≤ 1099511627776) (gc : c ≤ 1099511627776) (gd : d ≤ 1099511627776) (h : prdOk a b c d) (w : World) : Calls Tryd.prog 38 #[.agg #[.string f, .string t, .int .i64 (a : Int), .int .i64 (b : Int)], .int .i64 (c : Int), .int .i64 (d : Int)] w fun x w' => x = .returned (.tuple #[.agg #[.string f, .string t, .int .i64 (prdN a b c d : Int), .int .i64 (prdD a b c d : Int)], .int .i64 0]) ∧ Pushed w w' := by
  have p1 := rdN_pos (b := b) ha
  have p2 := rdD_pos ha hb
  have p3 := rdN_pos (b := d) hc
  have p4 := rdD_pos hc hd
  have l1 := rdN_le a b
  have l2 := rdD_le a b
  have l3 := rdN_le c d
  have l4 := rdD_le c d
  obtain ⟨⟨q1, u1⟩, ⟨q2, u2⟩, ⟨q3, u3⟩, ⟨q4, u4⟩⟩ := prd_bd ha hb hc hd ga gb gc gd
  have R1 := Lib.hid (fun w => red_ok a b ha hb (by omega) (by omega) w)
  have R2 := Lib.hid (fun w => red_ok c d hc hd (by omega) (by omega) w)
  have R3 := Lib.hid (fun w => red_ok (rdN a b) (rdD c d) p1 p4 (by omega) (by omega) w)
  have R4 := Lib.hid (fun w => red_ok (rdN c d) (rdD a b) p3 p2 (by omega) (by omega) w)
  have ea : (prd a b c d).a = rdN (rdN a b) (rdD c d) := rfl
  have eb : (prd a b c d).b = rdD (rdN c d) (rdD a b) := rfl
  have ec : (prd a b c d).c = rdN (rdN c d) (rdD a b) := rfl
  have ed : (prd a b c d).d = rdD (rdN a b) (rdD c d) := rfl
  obtain ⟨h1, h2⟩ := h
  unfold prdN prdD
  rw [ea, ec] at h1 ⊢
  rw [eb, ed] at h2 ⊢
  rw [ea] at q1 u1
  rw [eb] at q2 u2
  rw [ec] at q3 u3
  rw [ed] at q4 u4
  clear ea eb ec ed
  generalize rdN (rdN a b) (rdD c d) = A at *
  generalize rdD (rdN c d) (rdD a b) = B at *
  generalize rdN (rdN c d) (rdD a b) = C at *
  generalize rdD (rdN a b) (rdD c d) = D at *
  generalize rdN a b = a1 at *
  generalize rdD a b = b1 at *
  generalize rdN c d = c1 at *
  generalize rdD c d = d1 at *
  clear ha hb hc hd ga gb gc gd p1 p2 p3 p4 l1 l2 l3 l4
  have T1 := Lib.hid (fun w => times_ok A C h1 u1 u3 w)
  have T2 := Lib.hid (fun w => times_ok B D h2 u2 u4 w)
  generalize A * C = p at *
  generalize B * D = q at *
  clear q1 q2 q3 q4 u1 u2 u3 u4
  go_enter Tryd.func38, Tryd.ntmps38
  go_wp2_with fail
  go_at_call 11
  with_reducible refine (R1.out _).mono ?_
  rintro x w1 ⟨rfl, l0, n0, rfl⟩
  go_wp2_with fail
  go_at_call 11
  with_reducible refine (R2.out _).mono ?_
  rintro x w1 ⟨rfl, l1, n1, rfl⟩
  go_wp2_with fail
  go_at_call 11
  with_reducible refine (R3.out _).mono ?_
  rintro x w1 ⟨rfl, l2, n2, rfl⟩
  go_wp2_with fail
  go_at_call 11
  with_reducible refine (R4.out _).mono ?_
  rintro x w1 ⟨rfl, l3, n3, rfl⟩
  go_wp2_with fail
  go_at_call 54
  with_reducible refine (T1.out _).mono ?_
  rintro x w1 ⟨rfl, l4, n4, rfl⟩
  go_wp2_with fail
  go_at_call 54
  with_reducible refine (T2.out _).mono ?_
  rintro x w1 ⟨rfl, l5, n5, rfl⟩
  go_wp2
  exact bodyPost_ret (v := .tuple #[.agg #[.string f, .string t, .int .i64 (p : Int), .int .i64 (q : Int)], .int .i64 0]) (by simp [results, Tryd.results38, go_sem]) rfl ⟨rfl, (by repeat (first | with_reducible exact Pushed.refl _ | with_reducible assumption | with_reducible refine Pushed.push ?_ _ | with_reducible refine Pushed.alloc ?_ _ | with_reducible refine Pushed.drewN ?_ _ | with_reducible refine Pushed.drew ?_))⟩
set_option maxRecDepth 8000 in
set_option maxHeartbeats 3200000 in
theorem prod_bad (f t : ByteArray) (a b c d : Nat) (ha : 1 ≤ a) (hb : 1 ≤ b) (hc : 1 ≤ c) (hd : 1 ≤ d) (ga : a ≤ 1099511627776) (gb : b ≤ 1099511627776) (gc : c ≤ 1099511627776) (gd : d ≤ 1099511627776) (h : ¬ prdOk a b c d) (w : World) : Calls Tryd.prog 38 #[.agg #[.string f, .string t, .int .i64 (a : Int), .int .i64 (b : Int)], .int .i64 (c : Int), .int .i64 (d : Int)] w fun x w' => x = .returned (.tuple #[.agg #[.string ⟨#[]⟩, .string ⟨#[]⟩, .int .i64 0, .int .i64 0], .int .i64 4]) ∧ Pushed w w' := by
  have p1 := rdN_pos (b := b) ha
  have p2 := rdD_pos ha hb
  have p3 := rdN_pos (b := d) hc
  have p4 := rdD_pos hc hd
  have l1 := rdN_le a b
  have l2 := rdD_le a b
  have l3 := rdN_le c d
  have l4 := rdD_le c d
  obtain ⟨⟨q1, u1⟩, ⟨q2, u2⟩, ⟨q3, u3⟩, ⟨q4, u4⟩⟩ := prd_bd ha hb hc hd ga gb gc gd
  have R1 := Lib.hid (fun w => red_ok a b ha hb (by omega) (by omega) w)
  have R2 := Lib.hid (fun w => red_ok c d hc hd (by omega) (by omega) w)
  have R3 := Lib.hid (fun w => red_ok (rdN a b) (rdD c d) p1 p4 (by omega) (by omega) w)
  have R4 := Lib.hid (fun w => red_ok (rdN c d) (rdD a b) p3 p2 (by omega) (by omega) w)
  have ea : (prd a b c d).a = rdN (rdN a b) (rdD c d) := rfl
  have eb : (prd a b c d).b = rdD (rdN c d) (rdD a b) := rfl
  have ec : (prd a b c d).c = rdN (rdN c d) (rdD a b) := rfl
  have ed : (prd a b c d).d = rdD (rdN a b) (rdD c d) := rfl
  unfold prdOk at h
  rw [ea, eb, ec, ed] at h
  rw [ea] at q1 u1
  rw [eb] at q2 u2
  rw [ec] at q3 u3
  rw [ed] at q4 u4
  clear ea eb ec ed
  generalize rdN (rdN a b) (rdD c d) = A at *
  generalize rdD (rdN c d) (rdD a b) = B at *
  generalize rdN (rdN c d) (rdD a b) = C at *
  generalize rdD (rdN a b) (rdD c d) = D at *
  generalize rdN a b = a1 at *
  generalize rdD a b = b1 at *
  generalize rdN c d = c1 at *
  generalize rdD c d = d1 at *
  clear ha hb hc hd ga gb gc gd p1 p2 p3 p4 l1 l2 l3 l4
  by_cases h1 : A * C ≤ 1099511627776
  · have h2 : ¬ B * D ≤ 1099511627776 := fun h2 => h ⟨h1, h2⟩
    have T1 := Lib.hid (fun w => times_ok A C h1 u1 u3 w)
    have T2 := Lib.hid (fun w => times_big B D h2 u2 u4 w)
    generalize A * C = p at *
    generalize B * D = q at *
    clear q1 q2 q3 q4 u1 u2 u3 u4 h h2
    go_enter Tryd.func38, Tryd.ntmps38
    go_wp2_with fail
    go_at_call 11
    with_reducible refine (R1.out _).mono ?_
    rintro x w1 ⟨rfl, l0, n0, rfl⟩
    go_wp2_with fail
    go_at_call 11
    with_reducible refine (R2.out _).mono ?_
    rintro x w1 ⟨rfl, l1, n1, rfl⟩
    go_wp2_with fail
    go_at_call 11
    with_reducible refine (R3.out _).mono ?_
    rintro x w1 ⟨rfl, l2, n2, rfl⟩
    go_wp2_with fail
    go_at_call 11
    with_reducible refine (R4.out _).mono ?_
    rintro x w1 ⟨rfl, l3, n3, rfl⟩
    go_wp2_with fail
    go_at_call 54
    with_reducible refine (T1.out _).mono ?_
    rintro x w1 ⟨rfl, l4, n4, rfl⟩
    go_wp2_with fail
    go_at_call 54
    with_reducible refine (T2.out _).mono ?_
    rintro x w1 ⟨rfl, l5, n5, rfl⟩
    go_wp2
    exact bodyPost_ret (v := .tuple #[.agg #[.string ⟨#[]⟩, .string ⟨#[]⟩, .int .i64 0, .int .i64 0], .int .i64 4]) (by simp [results, Tryd.results38, go_sem]) rfl ⟨rfl, (by repeat (first | with_reducible exact Pushed.refl _ | with_reducible assumption | with_reducible refine Pushed.push ?_ _ | with_reducible refine Pushed.alloc ?_ _ | with_reducible refine Pushed.drewN ?_ _ | with_reducible refine Pushed.drew ?_))⟩
  · have T1 := Lib.hid (fun w => times_big A C h1 u1 u3 w)
    generalize A * C = p at *
    clear q1 q2 q3 q4 u1 u2 u3 u4 h h1
    go_enter Tryd.func38, Tryd.ntmps38
    go_wp2_with fail
    go_at_call 11
    with_reducible refine (R1.out _).mono ?_
    rintro x w1 ⟨rfl, l0, n0, rfl⟩
    go_wp2_with fail
    go_at_call 11
    with_reducible refine (R2.out _).mono ?_
    rintro x w1 ⟨rfl, l1, n1, rfl⟩
    go_wp2_with fail
    go_at_call 11
    with_reducible refine (R3.out _).mono ?_
    rintro x w1 ⟨rfl, l2, n2, rfl⟩
    go_wp2_with fail
    go_at_call 11
    with_reducible refine (R4.out _).mono ?_
    rintro x w1 ⟨rfl, l3, n3, rfl⟩
    go_wp2_with fail
    go_at_call 54
    with_reducible refine (T1.out _).mono ?_
    rintro x w1 ⟨rfl, l4, n4, rfl⟩
    go_wp2
    exact bodyPost_ret (v := .tuple #[.agg #[.string ⟨#[]⟩, .string ⟨#[]⟩, .int .i64 0, .int .i64 0], .int .i64 4]) (by simp [results, Tryd.results38, go_sem]) rfl ⟨rfl, (by repeat (first | with_reducible exact Pushed.refl _ | with_reducible assumption | with_reducible refine Pushed.push ?_ _ | with_reducible refine Pushed.alloc ?_ _ | with_reducible refine Pushed.drewN ?_ _ | with_reducible refine Pushed.drew ?_))⟩
end Go.Proofs.YtobnkfgikafanaaDoor

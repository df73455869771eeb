/-
  CONTRACTS of card numbers: Within, the program's and the specification's.
-/
import Derived.Test.YtddnfjaogekmjaaDoorP10
namespace Go.Proofs.YtddnfjaogekmjaaDoor
open Go.RowKit
set_option linter.unusedVariables false
set_option linter.unusedSimpArgs false
open Classical in
noncomputable def dgB (s : ByteArray) : Bool := decide (Dgs s)
theorem digits_b (s : ByteArray) (hs : s.size ≤ 1000) (h0 : 0 < s.size) {b : Bool} (HB : Hid (dgB s = b)) (w : World) : Calls Tryd.prog 29 #[.string s] w fun e w' => e = .returned (.bool b) ∧ w = w' := by
  have h := HB.out
  cases b
  · exact digits_no s hs (@of_decide_eq_false (Dgs s) (Classical.propDecidable _) h) w
  · exact digits_yes s hs h0 (@of_decide_eq_true (Dgs s) (Classical.propDecidable _) h) w
theorem rdigits_b (s : ByteArray) (hs : s.size ≤ 1000) {b : Bool} (HB : Hid (dgB s = b)) (w : World) : Calls Tryd.prog 30 #[.string s] w fun e w' => e = .returned (.bool b) ∧ w = w' := by
  have h := HB.out
  cases b
  · exact rdigits_no s hs (@of_decide_eq_false (Dgs s) (Classical.propDecidable _) h) w
  · exact rdigits_yes s hs (@of_decide_eq_true (Dgs s) (Classical.propDecidable _) h) w
def leS (a b : ByteArray) : Bool := Op.bytesLess a.toList b.toList || a.toList == b.toList
/-- Whether the beginning of a text lies between two prefixes. -/
noncomputable def withinB (s low high : ByteArray) : Bool := decide (0 < s.size) && dgB s && (decide (0 < low.size) && dgB low) && (decide (0 < high.size) && dgB high) && decide (low.size = high.size) && decide (low.size ≤ s.size) && leS low (s.extract 0 low.size) && leS (s.extract 0 low.size) high
set_option maxHeartbeats 3200000 in
theorem within_any (s low high : ByteArray) (hs : s.size ≤ 1000) (hl : low.size ≤ 1000) (hh : high.size ≤ 1000) (w : World) :
    Calls Tryd.prog 25 #[.string s, .string low, .string high] w fun e w' => e = .returned (.bool (withinB s low high)) ∧ w = w' := by
  rcases Nat.eq_zero_or_pos s.size with h0 | h0
  · have C1 := Lib.hid (fun w => digits_empty s h0 w)
    have HV : Hid (withinB s low high = false) := Lib.hid (by unfold withinB; simp [h0])
    go_enter Tryd.func25, Tryd.ntmps25
    go_wp2_with (go_at_call 29; refine (C1.out _).mono ?_; rintro e w' ⟨rfl, rfl⟩)
    go_ret
    exact ⟨ret_bool HV.out.symm, rfl⟩
  obtain ⟨b1, hb1⟩ : ∃ b, dgB s = b := ⟨_, rfl⟩
  have C1 := Lib.hid (fun w => digits_b s hs h0 (Lib.hid hb1) w)
  cases b1
  · have HV : Hid (withinB s low high = false) := Lib.hid (by unfold withinB; simp [hb1])
    go_enter Tryd.func25, Tryd.ntmps25
    go_wp2_with (go_at_call 29; refine (C1.out _).mono ?_; rintro e w' ⟨rfl, rfl⟩)
    go_ret
    exact ⟨ret_bool HV.out.symm, rfl⟩
  rcases Nat.eq_zero_or_pos low.size with l0 | l0
  · have C2 := Lib.hid (fun w => digits_empty low l0 w)
    have HV : Hid (withinB s low high = false) := Lib.hid (by unfold withinB; simp [l0])
    go_enter Tryd.func25, Tryd.ntmps25
    go_wp2_with (go_at_call 29; (first | with_reducible refine (C1.out _).mono ?_ | with_reducible refine (C2.out _).mono ?_); rintro e w' ⟨rfl, rfl⟩)
    go_ret
    exact ⟨ret_bool HV.out.symm, rfl⟩
  obtain ⟨b2, hb2⟩ : ∃ b, dgB low = b := ⟨_, rfl⟩
  have C2 := Lib.hid (fun w => digits_b low hl l0 (Lib.hid hb2) w)
  cases b2
  · have HV : Hid (withinB s low high = false) := Lib.hid (by unfold withinB; simp [hb2])
    go_enter Tryd.func25, Tryd.ntmps25
    go_wp2_with (go_at_call 29; (first | with_reducible refine (C1.out _).mono ?_ | with_reducible refine (C2.out _).mono ?_); rintro e w' ⟨rfl, rfl⟩)
    go_ret
    exact ⟨ret_bool HV.out.symm, rfl⟩
  rcases Nat.eq_zero_or_pos high.size with i0 | i0
  · have C3 := Lib.hid (fun w => digits_empty high i0 w)
    have HV : Hid (withinB s low high = false) := Lib.hid (by unfold withinB; simp [i0])
    go_enter Tryd.func25, Tryd.ntmps25
    go_wp2_with (go_at_call 29; (first | with_reducible refine (C1.out _).mono ?_ | with_reducible refine (C2.out _).mono ?_ | with_reducible refine (C3.out _).mono ?_); rintro e w' ⟨rfl, rfl⟩)
    go_ret
    exact ⟨ret_bool HV.out.symm, rfl⟩
  obtain ⟨b3, hb3⟩ : ∃ b, dgB high = b := ⟨_, rfl⟩
  have C3 := Lib.hid (fun w => digits_b high hh i0 (Lib.hid hb3) w)
  cases b3
  · have HV : Hid (withinB s low high = false) := Lib.hid (by unfold withinB; simp [hb3])
    go_enter Tryd.func25, Tryd.ntmps25
    go_wp2_with (go_at_call 29; (first | with_reducible refine (C1.out _).mono ?_ | with_reducible refine (C2.out _).mono ?_ | with_reducible refine (C3.out _).mono ?_); rintro e w' ⟨rfl, rfl⟩)
    go_ret
    exact ⟨ret_bool HV.out.symm, rfl⟩
  by_cases he : low.size = high.size
  · by_cases hz : low.size ≤ s.size
    · have hsl := fun w => sl_h s low.size hz (j := (low.size : Int)) rfl w
      have HV : Hid (withinB s low high = (leS low (s.extract 0 low.size) && leS (s.extract 0 low.size) high)) := Lib.hid (by unfold withinB; simp [h0, l0, i0, hb1, hb2, hb3, he]; simp [← he, hz])
      have hzi : ¬ (s.size : Int) < (low.size : Int) := by omega
      have hei : ((low.size : Int) != (high.size : Int)) = false := by rw [he]; simp
      clear he
      generalize s.extract 0 low.size = p at *
      unfold leS at HV
      obtain ⟨x1, hx1⟩ : ∃ x, Op.bytesLess low.toList p.toList = x := ⟨_, rfl⟩
      obtain ⟨x2, hx2⟩ : ∃ x, (low.toList == p.toList) = x := ⟨_, rfl⟩
      obtain ⟨y1, hy1⟩ : ∃ x, Op.bytesLess p.toList high.toList = x := ⟨_, rfl⟩
      obtain ⟨y2, hy2⟩ : ∃ x, (p.toList == high.toList) = x := ⟨_, rfl⟩
      rw [hx1, hx2, hy1, hy2] at HV
      have O1 : binOp .leq 9 (.string low) (.string p) = pure (.bool (x1 || x2)) := by rw [binOp_string_leq, hx1, hx2]
      have O2 : binOp .leq 9 (.string p) (.string high) = pure (.bool (y1 || y2)) := by rw [binOp_string_leq, hy1, hy2]
      cases x1 <;> cases x2 <;> cases y1 <;> cases y2 <;>
      · go_enter Tryd.func25, Tryd.ntmps25
        go_wp2_with (go_at_call 29; (first | with_reducible refine (C1.out _).mono ?_ | with_reducible refine (C2.out _).mono ?_ | with_reducible refine (C3.out _).mono ?_); rintro e w' ⟨rfl, rfl⟩)
        go_ret
        exact ⟨ret_bool HV.out.symm, rfl⟩
    · have HV : Hid (withinB s low high = false) := Lib.hid (by unfold withinB; simp [hz])
      have hzi : (s.size : Int) < (low.size : Int) := by omega
      have hei : ((low.size : Int) != (high.size : Int)) = false := by rw [he]; simp
      go_enter Tryd.func25, Tryd.ntmps25
      go_wp2_with (go_at_call 29; (first | with_reducible refine (C1.out _).mono ?_ | with_reducible refine (C2.out _).mono ?_ | with_reducible refine (C3.out _).mono ?_); rintro e w' ⟨rfl, rfl⟩)
      go_ret
      exact ⟨ret_bool HV.out.symm, rfl⟩
  · have HV : Hid (withinB s low high = false) := Lib.hid (by unfold withinB; simp [he])
    have hei : ((low.size : Int) != (high.size : Int)) = true := bne_iff_ne.2 (by omega)
    go_enter Tryd.func25, Tryd.ntmps25
    go_wp2_with (go_at_call 29; (first | with_reducible refine (C1.out _).mono ?_ | with_reducible refine (C2.out _).mono ?_ | with_reducible refine (C3.out _).mono ?_); rintro e w' ⟨rfl, rfl⟩)
    go_ret
    exact ⟨ret_bool HV.out.symm, rfl⟩
set_option maxHeartbeats 3200000 in
theorem rwithin_any (s low high : ByteArray) (hs : s.size ≤ 1000) (hl : low.size ≤ 1000) (hh : high.size ≤ 1000) (w : World) :
    Calls Tryd.prog 26 #[.string s, .string low, .string high] w fun e w' => e = .returned (.bool (withinB s low high)) ∧ w = w' := by
  obtain ⟨b1, hb1⟩ : ∃ b, dgB s = b := ⟨_, rfl⟩
  obtain ⟨b2, hb2⟩ : ∃ b, dgB low = b := ⟨_, rfl⟩
  obtain ⟨b3, hb3⟩ : ∃ b, dgB high = b := ⟨_, rfl⟩
  have C1 := Lib.hid (fun w => rdigits_b s hs (Lib.hid hb1) w)
  have C2 := Lib.hid (fun w => rdigits_b low hl (Lib.hid hb2) w)
  have C3 := Lib.hid (fun w => rdigits_b high hh (Lib.hid hb3) w)
  cases b1
  · have HV : Hid (withinB s low high = false) := Lib.hid (by unfold withinB; simp [hb1])
    go_enter Tryd.func26, Tryd.ntmps26
    go_wp2_with (go_at_call 30; (first | with_reducible refine (C1.out _).mono ?_ | with_reducible refine (C2.out _).mono ?_ | with_reducible refine (C3.out _).mono ?_); rintro e w' ⟨rfl, rfl⟩)
    go_ret
    exact ⟨ret_bool HV.out.symm, rfl⟩
  cases b2
  · have HV : Hid (withinB s low high = false) := Lib.hid (by unfold withinB; simp [hb2])
    go_enter Tryd.func26, Tryd.ntmps26
    go_wp2_with (go_at_call 30; (first | with_reducible refine (C1.out _).mono ?_ | with_reducible refine (C2.out _).mono ?_ | with_reducible refine (C3.out _).mono ?_); rintro e w' ⟨rfl, rfl⟩)
    go_ret
    exact ⟨ret_bool HV.out.symm, rfl⟩
  cases b3
  · have HV : Hid (withinB s low high = false) := Lib.hid (by unfold withinB; simp [hb3])
    go_enter Tryd.func26, Tryd.ntmps26
    go_wp2_with (go_at_call 30; (first | with_reducible refine (C1.out _).mono ?_ | with_reducible refine (C2.out _).mono ?_ | with_reducible refine (C3.out _).mono ?_); rintro e w' ⟨rfl, rfl⟩)
    go_ret
    exact ⟨ret_bool HV.out.symm, rfl⟩
  by_cases he : low.size = high.size
  · have hei : ((low.size : Int) == (high.size : Int)) = true := by rw [he]; simp
    by_cases l0 : 1 ≤ low.size
    · by_cases hz : low.size ≤ s.size
      · have hsl := fun w => sl_h s low.size hz (j := (low.size : Int)) rfl w
        have HV : Hid (withinB s low high = (leS low (s.extract 0 low.size) && leS (s.extract 0 low.size) high)) := Lib.hid (by unfold withinB; rw [hb1, hb2, hb3, decide_eq_true (show 0 < s.size by omega), decide_eq_true (show 0 < low.size by omega), decide_eq_true (show 0 < high.size by omega), decide_eq_true he, decide_eq_true hz]; rfl)
        have hzi : (low.size : Int) ≤ (s.size : Int) := by omega
        clear he
        generalize s.extract 0 low.size = p at *
        unfold leS at HV
        obtain ⟨x1, hx1⟩ : ∃ x, Op.bytesLess low.toList p.toList = x := ⟨_, rfl⟩
        obtain ⟨x2, hx2⟩ : ∃ x, (low.toList == p.toList) = x := ⟨_, rfl⟩
        obtain ⟨y1, hy1⟩ : ∃ x, Op.bytesLess p.toList high.toList = x := ⟨_, rfl⟩
        obtain ⟨y2, hy2⟩ : ∃ x, (p.toList == high.toList) = x := ⟨_, rfl⟩
        rw [hx1, hx2, hy1, hy2] at HV
        have O1 : binOp .leq 9 (.string low) (.string p) = pure (.bool (x1 || x2)) := by rw [binOp_string_leq, hx1, hx2]
        have O2 : binOp .leq 9 (.string p) (.string high) = pure (.bool (y1 || y2)) := by rw [binOp_string_leq, hy1, hy2]
        cases x1 <;> cases x2 <;> cases y1 <;> cases y2 <;>
        · go_enter Tryd.func26, Tryd.ntmps26
          go_wp2_with (go_at_call 30; (first | with_reducible refine (C1.out _).mono ?_ | with_reducible refine (C2.out _).mono ?_ | with_reducible refine (C3.out _).mono ?_); rintro e w' ⟨rfl, rfl⟩)
          go_ret
          exact ⟨ret_bool HV.out.symm, rfl⟩
      · have HV : Hid (withinB s low high = false) := Lib.hid (by unfold withinB; simp [hz])
        go_enter Tryd.func26, Tryd.ntmps26
        go_wp2_with (go_at_call 30; (first | with_reducible refine (C1.out _).mono ?_ | with_reducible refine (C2.out _).mono ?_ | with_reducible refine (C3.out _).mono ?_); rintro e w' ⟨rfl, rfl⟩)
        go_ret
        exact ⟨ret_bool HV.out.symm, rfl⟩
    · have HV : Hid (withinB s low high = false) := Lib.hid (by unfold withinB; simp [show low.size = 0 by omega])
      go_enter Tryd.func26, Tryd.ntmps26
      go_wp2_with (go_at_call 30; (first | with_reducible refine (C1.out _).mono ?_ | with_reducible refine (C2.out _).mono ?_ | with_reducible refine (C3.out _).mono ?_); rintro e w' ⟨rfl, rfl⟩)
      go_ret
      exact ⟨ret_bool HV.out.symm, rfl⟩
  · have hei : ((low.size : Int) == (high.size : Int)) = false := beq_false_of_ne (by omega)
    have HV : Hid (withinB s low high = false) := Lib.hid (by unfold withinB; simp [he])
    go_enter Tryd.func26, Tryd.ntmps26
    go_wp2_with (go_at_call 30; (first | with_reducible refine (C1.out _).mono ?_ | with_reducible refine (C2.out _).mono ?_ | with_reducible refine (C3.out _).mono ?_); rintro e w' ⟨rfl, rfl⟩)
    go_ret
    exact ⟨ret_bool HV.out.symm, rfl⟩
end Go.Proofs.YtddnfjaogekmjaaDoor

/-
  CONTRACTS of rates: the specification's Round.
-/
import Derived.Test.YtobnkfgikafanaaDoorR29
namespace Go.Proofs.YtobnkfgikafanaaDoor
open Go.RowKit
set_option linter.unusedVariables false
set_option linter.unusedSimpArgs false
def rndR (q r d : Nat) (mode : Int) : Nat := if upB q r d mode = true then q + 1 else q
set_option maxRecDepth 8000 in
set_option maxHeartbeats 3200000 in
theorem rround_any (q r d : Nat) (mode : Int) (hq : q ≤ 4503599627370497) (hr : r ≤ 1099511627776) (hd : d ≤ 1099511627776) {v : Int} (HB : Hid ((rndR q r d mode : Int) = v)) (w : World) : Calls Tryd.prog 53 #[.int .i64 (q : Int), .int .i64 (r : Int), .int .i64 (d : Int), .int .i64 mode] w fun x w' => x = .returned (.int .i64 v) ∧ Pushed w w' := by
  have r0 : 0 ≤ (r : Int) := by omega
  have r1 : (r : Int) ≤ 1099511627776 := by omega
  have d0 : 0 ≤ (d : Int) := by omega
  have q0 : 0 ≤ (q : Int) := by omega
  have q1 : (q : Int) ≤ 4503599627370497 := by omega
  by_cases m2 : mode = 2
  · subst m2
    by_cases g : 0 < r
    · have g1 : 0 < (r : Int) := by omega
      have HE : Hid ((q : Int) + 1 = v) := Lib.hid (by rw [← HB.out, rndR, if_pos (by unfold upB; simp [g])]; rfl)
      clear HB hq hr hd g
      generalize (r : Int) = r at *
      generalize (q : Int) = q at *
      generalize (d : Int) = d at *
      go_enter Tryd.func53, Tryd.ntmps53
      go_wp2
      go_ret
      exact ⟨ret_int HE.out, (by repeat (first | with_reducible exact Pushed.refl _ | with_reducible assumption | with_reducible refine Pushed.alloc ?_ _ | with_reducible refine Pushed.drewN ?_ _ | with_reducible refine Pushed.drew ?_))⟩
    · have g1 : ¬ 0 < (r : Int) := by omega
      have HE : Hid ((q : Int) = v) := Lib.hid (by rw [← HB.out, rndR, if_neg (by unfold upB; simp [g])])
      clear HB hq hr hd g
      generalize (r : Int) = r at *
      generalize (q : Int) = q at *
      generalize (d : Int) = d at *
      go_enter Tryd.func53, Tryd.ntmps53
      go_wp2
      go_ret
      exact ⟨ret_int HE.out, (by repeat (first | with_reducible exact Pushed.refl _ | with_reducible assumption | with_reducible refine Pushed.alloc ?_ _ | with_reducible refine Pushed.drewN ?_ _ | with_reducible refine Pushed.drew ?_))⟩
  by_cases m3 : mode = 3
  · subst m3
    by_cases g : d ≤ 2 * r
    · have g1 : (d : Int) ≤ 2 * (r : Int) := by omega
      have HE : Hid ((q : Int) + 1 = v) := Lib.hid (by rw [← HB.out, rndR, if_pos (by unfold upB; simp [g])]; rfl)
      clear HB hq hr hd g
      generalize (r : Int) = r at *
      generalize (q : Int) = q at *
      generalize (d : Int) = d at *
      go_enter Tryd.func53, Tryd.ntmps53
      go_wp2
      go_ret
      exact ⟨ret_int HE.out, (by repeat (first | with_reducible exact Pushed.refl _ | with_reducible assumption | with_reducible refine Pushed.alloc ?_ _ | with_reducible refine Pushed.drewN ?_ _ | with_reducible refine Pushed.drew ?_))⟩
    · have g1 : ¬ (d : Int) ≤ 2 * (r : Int) := by omega
      have HE : Hid ((q : Int) = v) := Lib.hid (by rw [← HB.out, rndR, if_neg (by unfold upB; simp [g])])
      clear HB hq hr hd g
      generalize (r : Int) = r at *
      generalize (q : Int) = q at *
      generalize (d : Int) = d at *
      go_enter Tryd.func53, Tryd.ntmps53
      go_wp2
      go_ret
      exact ⟨ret_int HE.out, (by repeat (first | with_reducible exact Pushed.refl _ | with_reducible assumption | with_reducible refine Pushed.alloc ?_ _ | with_reducible refine Pushed.drewN ?_ _ | with_reducible refine Pushed.drew ?_))⟩
  by_cases m4 : mode = 4
  · subst m4
    by_cases g : d < 2 * r
    · have g1 : (d : Int) < 2 * (r : Int) := by omega
      have HE : Hid ((q : Int) + 1 = v) := Lib.hid (by rw [← HB.out, rndR, if_pos (by unfold upB; simp [g])]; rfl)
      clear HB hq hr hd g
      generalize (r : Int) = r at *
      generalize (q : Int) = q at *
      generalize (d : Int) = d at *
      go_enter Tryd.func53, Tryd.ntmps53
      go_wp2
      go_ret
      exact ⟨ret_int HE.out, (by repeat (first | with_reducible exact Pushed.refl _ | with_reducible assumption | with_reducible refine Pushed.alloc ?_ _ | with_reducible refine Pushed.drewN ?_ _ | with_reducible refine Pushed.drew ?_))⟩
    · have g1 : ¬ (d : Int) < 2 * (r : Int) := by omega
      by_cases k : 2 * r = d
      · have k1 : (2 * (r : Int) == (d : Int)) = true := by simp; omega
        by_cases j : q % 2 = 1
        · have j1 : ((q : Int) % 2 == 1) = true := by simp; omega
          have j2 : ((q : Int).tmod 2 == 1) = true := by rw [Int.tmod_eq_emod_of_nonneg q0]; exact j1
          have HE : Hid ((q : Int) + 1 = v) := Lib.hid (by rw [← HB.out, rndR, if_pos (by unfold upB; simp [g, k, j])]; rfl)
          clear HB hq hr hd g k j
          generalize (r : Int) = r at *
          generalize (q : Int) = q at *
          generalize (d : Int) = d at *
          go_enter Tryd.func53, Tryd.ntmps53
          go_wp2
          go_ret
          exact ⟨ret_int HE.out, (by repeat (first | with_reducible exact Pushed.refl _ | with_reducible assumption | with_reducible refine Pushed.alloc ?_ _ | with_reducible refine Pushed.drewN ?_ _ | with_reducible refine Pushed.drew ?_))⟩
        · have j1 : ((q : Int) % 2 == 1) = false := by simp; omega
          have j2 : ((q : Int).tmod 2 == 1) = false := by rw [Int.tmod_eq_emod_of_nonneg q0]; exact j1
          have HE : Hid ((q : Int) = v) := Lib.hid (by rw [← HB.out, rndR, if_neg (by unfold upB; simp [g, k, j])])
          clear HB hq hr hd g k j
          generalize (r : Int) = r at *
          generalize (q : Int) = q at *
          generalize (d : Int) = d at *
          go_enter Tryd.func53, Tryd.ntmps53
          go_wp2
          go_ret
          exact ⟨ret_int HE.out, (by repeat (first | with_reducible exact Pushed.refl _ | with_reducible assumption | with_reducible refine Pushed.alloc ?_ _ | with_reducible refine Pushed.drewN ?_ _ | with_reducible refine Pushed.drew ?_))⟩
      · have k1 : (2 * (r : Int) == (d : Int)) = false := by simp; omega
        have HE : Hid ((q : Int) = v) := Lib.hid (by rw [← HB.out, rndR, if_neg (by unfold upB; simp [g, k])])
        clear HB hq hr hd g k
        generalize (r : Int) = r at *
        generalize (q : Int) = q at *
        generalize (d : Int) = d at *
        go_enter Tryd.func53, Tryd.ntmps53
        go_wp2
        go_ret
        exact ⟨ret_int HE.out, (by repeat (first | with_reducible exact Pushed.refl _ | with_reducible assumption | with_reducible refine Pushed.alloc ?_ _ | with_reducible refine Pushed.drewN ?_ _ | with_reducible refine Pushed.drew ?_))⟩
  · have e2 : (mode == 2) = false := by simp [m2]
    have e3 : (mode == 3) = false := by simp [m3]
    have e4 : (mode == 4) = false := by simp [m4]
    have HE : Hid ((q : Int) = v) := Lib.hid (by rw [← HB.out, rndR, if_neg (by unfold upB; simp [m2, m3, m4])])
    clear HB hq hr hd m2 m3 m4
    generalize (r : Int) = r at *
    generalize (q : Int) = q at *
    generalize (d : Int) = d at *
    go_enter Tryd.func53, Tryd.ntmps53
    go_wp2
    go_ret
    exact ⟨ret_int HE.out, (by repeat (first | with_reducible exact Pushed.refl _ | with_reducible assumption | with_reducible refine Pushed.alloc ?_ _ | with_reducible refine Pushed.drewN ?_ _ | with_reducible refine Pushed.drew ?_))⟩
end Go.Proofs.YtobnkfgikafanaaDoor

/-
  CONTRACTS of rates: amounts: Check, magnitudes, division of a word, rounding.
-/
import Derived.Test.YtompkkanckejjaaDoorM1
import Derived.Test.YtompkkanckejjaaDoorKShelf
namespace Go.Proofs.YtompkkanckejjaaDoor
open Go.RowKit
set_option linter.unusedVariables false
set_option linter.unusedSimpArgs false
def mchkR (a : Int) (c : ByteArray) : Int := if curP c then (if -4503599627370496 ≤ a ∧ a ≤ 4503599627370496 then 0 else 4) else 11
set_option maxHeartbeats 1600000 in
theorem mchk_any (a : Int) (c : ByteArray) (hc : c.size ≤ 9223372036854775807) {e : Int} (H : Hid (mchkR a c = e)) (w : World) : Calls Tryd.prog 16 #[.agg #[.int .i64 a, .string c]] w fun x w' => x = .returned (.int .i64 e) ∧ Pushed w w' := by
  by_cases h1 : curP c
  case neg =>
    have HE : Hid (11 = e) := Lib.hid (by rw [← H.out, mchkR, if_neg h1])
    have A := Lib.hid (fun w => cur_no c hc h1 w)
    clear h1 H
    go_enter Tryd.func16, Tryd.ntmps16
    go_wp2_with fail
    refine (A.out _).mono ?_
    rintro x w1 ⟨rfl, rfl⟩
    go_wp2
    go_ret
    exact ⟨ret_int HE.out, (by repeat (first | with_reducible exact Pushed.refl _ | with_reducible assumption | with_reducible refine Pushed.push ?_ _ | with_reducible refine Pushed.alloc ?_ _ | with_reducible refine Pushed.drewN ?_ _ | with_reducible refine Pushed.drew ?_))⟩
  have A := Lib.hid (fun w => cur_yes c h1 w)
  by_cases g0 : -4503599627370496 ≤ a
  case neg =>
    have HE : Hid (4 = e) := Lib.hid (by rw [← H.out, mchkR, if_pos h1, if_neg (fun h => g0 h.1)])
    clear h1 H
    go_enter Tryd.func16, Tryd.ntmps16
    go_wp2_with fail
    refine (A.out _).mono ?_
    rintro x w1 ⟨rfl, rfl⟩
    go_wp2
    go_ret
    exact ⟨ret_int HE.out, (by repeat (first | with_reducible exact Pushed.refl _ | with_reducible assumption | with_reducible refine Pushed.push ?_ _ | with_reducible refine Pushed.alloc ?_ _ | with_reducible refine Pushed.drewN ?_ _ | with_reducible refine Pushed.drew ?_))⟩
  by_cases g1 : a ≤ 4503599627370496
  case neg =>
    have HE : Hid (4 = e) := Lib.hid (by rw [← H.out, mchkR, if_pos h1, if_neg (fun h => g1 h.2)])
    clear h1 H
    go_enter Tryd.func16, Tryd.ntmps16
    go_wp2_with fail
    refine (A.out _).mono ?_
    rintro x w1 ⟨rfl, rfl⟩
    go_wp2
    go_ret
    exact ⟨ret_int HE.out, (by repeat (first | with_reducible exact Pushed.refl _ | with_reducible assumption | with_reducible refine Pushed.push ?_ _ | with_reducible refine Pushed.alloc ?_ _ | with_reducible refine Pushed.drewN ?_ _ | with_reducible refine Pushed.drew ?_))⟩
  have HE : Hid (0 = e) := Lib.hid (by rw [← H.out, mchkR, if_pos h1, if_pos ⟨g0, g1⟩])
  clear h1 H
  go_enter Tryd.func16, Tryd.ntmps16
  go_wp2_with fail
  refine (A.out _).mono ?_
  rintro x w1 ⟨rfl, rfl⟩
  go_wp2
  go_ret
  exact ⟨ret_int HE.out, (by repeat (first | with_reducible exact Pushed.refl _ | with_reducible assumption | with_reducible refine Pushed.push ?_ _ | with_reducible refine Pushed.alloc ?_ _ | with_reducible refine Pushed.drewN ?_ _ | with_reducible refine Pushed.drew ?_))⟩
theorem mag_pos (a : Nat) (h : (a : Int) ≤ 4503599627370496) (w : World) : Calls Tryd.prog 37 #[.int .i64 (a : Int)] w fun x w' => x = .returned (.int .u64 (a : Int)) ∧ Pushed w w' := by
  have g : ¬ (a : Int) < 0 := by omega
  have g0 : 0 ≤ (a : Int) := by omega
  generalize (a : Int) = a at *
  go_enter Tryd.func37, Tryd.ntmps37
  go_wp2
  go_ret
  exact ⟨rfl, (by repeat (first | with_reducible exact Pushed.refl _ | with_reducible assumption | with_reducible refine Pushed.push ?_ _ | with_reducible refine Pushed.alloc ?_ _ | with_reducible refine Pushed.drewN ?_ _ | with_reducible refine Pushed.drew ?_))⟩
theorem mag_neg (a : Nat) (h1 : 1 ≤ a) (h : (a : Int) ≤ 4503599627370496) (w : World) : Calls Tryd.prog 37 #[.int .i64 (-(a : Int))] w fun x w' => x = .returned (.int .u64 (a : Int)) ∧ Pushed w w' := by
  have g : -(a : Int) < 0 := by omega
  have g0 : 1 ≤ (a : Int) := by omega
  have gg : - -(a : Int) = (a : Int) := by omega
  generalize (a : Int) = a at *
  go_enter Tryd.func37, Tryd.ntmps37
  go_wp2
  go_ret
  exact ⟨rfl, (by repeat (first | with_reducible exact Pushed.refl _ | with_reducible assumption | with_reducible refine Pushed.push ?_ _ | with_reducible refine Pushed.alloc ?_ _ | with_reducible refine Pushed.drewN ?_ _ | with_reducible refine Pushed.drew ?_))⟩
/-- Whether a magnitude is rounded away from zero. -/
def upB (q r d : Nat) (mode : Int) : Bool := if mode = 2 then decide (0 < r) else if mode = 3 then decide (d ≤ 2 * r) else if mode = 4 then (decide (d < 2 * r) || (decide (2 * r = d) && decide (q % 2 = 1))) else false
set_option maxRecDepth 8000 in
set_option maxHeartbeats 3200000 in
theorem up_any (q r d : Nat) (mode : Int) (hr : r ≤ 1099511627776) (hd : d ≤ 1099511627776) {b : Bool} (HB : Hid (upB q r d mode = b)) (w : World) : Calls Tryd.prog 39 #[.int .u64 (q : Int), .int .u64 (r : Int), .int .u64 (d : Int), .int .i64 mode] w fun x w' => x = .returned (.bool b) ∧ Pushed w w' := by
  have r0 : 0 ≤ (r : Int) := by omega
  have r1 : (r : Int) ≤ 1099511627776 := by omega
  have d0 : 0 ≤ (d : Int) := by omega
  have q0 : 0 ≤ (q : Int) := by omega
  by_cases m2 : mode = 2
  · subst m2
    have HE : Hid (decide (0 < (r : Int)) = b) := Lib.hid (by rw [← HB.out]; unfold upB; simp)
    clear HB hr hd
    generalize (r : Int) = r at *
    generalize (q : Int) = q at *
    generalize (d : Int) = d at *
    go_enter Tryd.func39, Tryd.ntmps39
    go_wp2
    go_ret
    exact ⟨ret_bool HE.out, (by repeat (first | with_reducible exact Pushed.refl _ | with_reducible assumption | with_reducible refine Pushed.push ?_ _ | with_reducible refine Pushed.alloc ?_ _ | with_reducible refine Pushed.drewN ?_ _ | with_reducible refine Pushed.drew ?_))⟩
  by_cases m3 : mode = 3
  · subst m3
    have HE : Hid (decide ((d : Int) ≤ 2 * (r : Int)) = b) := Lib.hid (by rw [← HB.out]; unfold upB; simp; omega)
    clear HB hr hd
    generalize (r : Int) = r at *
    generalize (q : Int) = q at *
    generalize (d : Int) = d at *
    go_enter Tryd.func39, Tryd.ntmps39
    go_wp2
    go_ret
    exact ⟨ret_bool HE.out, (by repeat (first | with_reducible exact Pushed.refl _ | with_reducible assumption | with_reducible refine Pushed.push ?_ _ | with_reducible refine Pushed.alloc ?_ _ | with_reducible refine Pushed.drewN ?_ _ | with_reducible refine Pushed.drew ?_))⟩
  by_cases m4 : mode = 4
  · subst m4
    by_cases g1 : d < 2 * r
    · have HE : Hid (true = b) := Lib.hid (by rw [← HB.out]; unfold upB; simp [g1])
      have g2 : (d : Int) < 2 * (r : Int) := by omega
      clear HB hr hd g1
      generalize (r : Int) = r at *
      generalize (q : Int) = q at *
      generalize (d : Int) = d at *
      go_enter Tryd.func39, Tryd.ntmps39
      go_wp2
      go_ret
      exact ⟨ret_bool HE.out, (by repeat (first | with_reducible exact Pushed.refl _ | with_reducible assumption | with_reducible refine Pushed.push ?_ _ | with_reducible refine Pushed.alloc ?_ _ | with_reducible refine Pushed.drewN ?_ _ | with_reducible refine Pushed.drew ?_))⟩
    · have g2 : ¬ (d : Int) < 2 * (r : Int) := by omega
      by_cases g3 : 2 * r = d
      · have g4 : (2 * (r : Int) == (d : Int)) = true := by simp; omega
        have HE : Hid (decide ((q : Int) % 2 = 1) = b) := Lib.hid (by
          rw [← HB.out]; unfold upB
          simp [g1, g3]
          omega)
        have HE2 : Hid (((q : Int) % 2 == 1) = b) := Lib.hid (by rw [← HE.out]; rfl)
        clear HB hr hd g1 g3
        generalize (r : Int) = r at *
        generalize (q : Int) = q at *
        generalize (d : Int) = d at *
        go_enter Tryd.func39, Tryd.ntmps39
        go_wp2
        go_ret
        exact ⟨ret_bool HE2.out, (by repeat (first | with_reducible exact Pushed.refl _ | with_reducible assumption | with_reducible refine Pushed.push ?_ _ | with_reducible refine Pushed.alloc ?_ _ | with_reducible refine Pushed.drewN ?_ _ | with_reducible refine Pushed.drew ?_))⟩
      · have g4 : (2 * (r : Int) == (d : Int)) = false := by simp; omega
        have HE : Hid (false = b) := Lib.hid (by rw [← HB.out]; unfold upB; simp [g1, g3])
        clear HB hr hd g1 g3
        generalize (r : Int) = r at *
        generalize (q : Int) = q at *
        generalize (d : Int) = d at *
        go_enter Tryd.func39, Tryd.ntmps39
        go_wp2
        go_ret
        exact ⟨ret_bool HE.out, (by repeat (first | with_reducible exact Pushed.refl _ | with_reducible assumption | with_reducible refine Pushed.push ?_ _ | with_reducible refine Pushed.alloc ?_ _ | with_reducible refine Pushed.drewN ?_ _ | with_reducible refine Pushed.drew ?_))⟩
  · have HE : Hid (false = b) := Lib.hid (by rw [← HB.out]; unfold upB; simp [m2, m3, m4])
    have e2 : (mode == 2) = false := by simp [m2]
    have e3 : (mode == 3) = false := by simp [m3]
    have e4 : (mode == 4) = false := by simp [m4]
    clear HB hr hd
    go_enter Tryd.func39, Tryd.ntmps39
    go_wp2
    go_ret
    exact ⟨ret_bool HE.out, (by repeat (first | with_reducible exact Pushed.refl _ | with_reducible assumption | with_reducible refine Pushed.push ?_ _ | with_reducible refine Pushed.alloc ?_ _ | with_reducible refine Pushed.drewN ?_ _ | with_reducible refine Pushed.drew ?_))⟩
theorem valid_ok (n : Int) (c : ByteArray) (hc : c.size ≤ 9223372036854775807) (H : Hid (mchkR n c = 0)) (w : World) : Calls Tryd.prog 30 #[.int .i64 n, .string c] w fun x w' => x = .returned (.tuple #[.agg #[.int .i64 n, .string c], .int .i64 0]) ∧ Pushed w w' := by
  have CK := Lib.hid (fun w => mchk_any n c hc H w)
  go_enter Tryd.func30, Tryd.ntmps30
  go_wp2_with fail
  go_at_call 16
  with_reducible refine (CK.out _).mono ?_
  rintro x w1 ⟨rfl, l0, n0, rfl⟩
  go_wp2
  exact bodyPost_ret (v := .tuple #[.agg #[.int .i64 n, .string c], .int .i64 0]) (by simp [results, Tryd.results30, go_sem]) rfl ⟨rfl, (by repeat (first | with_reducible exact Pushed.refl _ | with_reducible assumption | with_reducible refine Pushed.push ?_ _ | with_reducible refine Pushed.alloc ?_ _ | with_reducible refine Pushed.drewN ?_ _ | with_reducible refine Pushed.drew ?_))⟩
set_option maxHeartbeats 1600000 in
theorem div64_wide (p d : Nat) (h1 : 1 ≤ d) (hp : (p : Int) ≤ 18446744073709551615) (w : World) : Calls Tryd.prog 38 #[.int .u64 0, .int .u64 (p : Int), .int .u64 (d : Int)] w fun x w' => x = .returned (.tuple #[.int .u64 ((p / d : Nat) : Int), .int .u64 ((p % d : Nat) : Int)]) ∧ Pushed w w' := by
  have n1 : ¬ (d : Int) = 0 := by omega
  have n2 : ((d : Int) == 0) = false := by simp; omega
  have n3 : ¬ (d : Int) ≤ 0 := by omega
  have t1 : (p : Int).tdiv (d : Int) = ((p / d : Nat) : Int) := by rw [Int.tdiv_eq_ediv_of_nonneg (by omega)]; rfl
  have t2 : (p : Int).tmod (d : Int) = ((p % d : Nat) : Int) := by rw [Int.tmod_eq_emod_of_nonneg (by omega)]; rfl
  have t3 : (p : Int) / (d : Int) = ((p / d : Nat) : Int) := rfl
  have t4 : (p : Int) % (d : Int) = ((p % d : Nat) : Int) := rfl
  have l1 : p / d ≤ p := Nat.div_le_self _ _
  have l2 : p % d ≤ p := Nat.mod_le _ _
  generalize p / d = q at *
  generalize p % d = r at *
  have w3 : IntKind.u64.wrap (q : Int) = (q : Int) := IntWalk.u64_in _ (by omega)
  have w4 : IntKind.u64.wrap (r : Int) = (r : Int) := IntWalk.u64_in _ (by omega)
  clear hp l1 l2 h1
  go_enter Tryd.func38, Tryd.ntmps38
  go_wp2_with fail
  go_quiet (fail)
  go_wp2
  go_ret2
  exact ⟨rfl, (by repeat (first | with_reducible exact Pushed.refl _ | with_reducible assumption | with_reducible refine Pushed.push ?_ _ | with_reducible refine Pushed.alloc ?_ _ | with_reducible refine Pushed.drewN ?_ _ | with_reducible refine Pushed.drew ?_))⟩
set_option maxHeartbeats 1600000 in
theorem valid_err (n : Int) (c : ByteArray) (hc : c.size ≤ 9223372036854775807) {e : Int} (H : Hid (mchkR n c = e)) (he : (e != 0) = true) (w : World) : Calls Tryd.prog 30 #[.int .i64 n, .string c] w fun x w' => x = .returned (.tuple #[.agg #[.int .i64 0, .string ⟨#[]⟩], .int .i64 e]) ∧ Pushed w w' := by
  have C1 := Lib.hid (fun w => mchk_any n c hc H w)
  go_enter Tryd.func30, Tryd.ntmps30
  go_wp2_with fail
  go_at_call 16
  with_reducible refine (C1.out _).mono ?_
  rintro x w1 ⟨rfl, l0, n0, rfl⟩
  go_wp2
  exact bodyPost_ret (v := .tuple #[.agg #[.int .i64 0, .string ⟨#[]⟩], .int .i64 e]) (by simp [results, Tryd.results30, go_sem]) rfl ⟨rfl, (by repeat (first | with_reducible exact Pushed.refl _ | with_reducible assumption | with_reducible refine Pushed.push ?_ _ | with_reducible refine Pushed.alloc ?_ _ | with_reducible refine Pushed.drewN ?_ _ | with_reducible refine Pushed.drew ?_))⟩
end Go.Proofs.YtompkkanckejjaaDoor

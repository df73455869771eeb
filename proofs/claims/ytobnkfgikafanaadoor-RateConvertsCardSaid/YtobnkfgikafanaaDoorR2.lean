/-
  CONTRACTS of rates: the greatest common divisor, Reduce, Check.
-/
import Derived.Test.YtobnkfgikafanaaDoorR1
namespace Go.Proofs.YtobnkfgikafanaaDoor
open Go.RowKit
set_option linter.unusedVariables false
set_option linter.unusedSimpArgs false
set_option maxHeartbeats 800000 in
theorem div_any (a b : Nat) (ha : (a : Int) ≤ 9223372036854775807) (hb : (b : Int) ≤ 9223372036854775807) (w : World) : Calls Tryd.prog 29 #[.int .i64 (a : Int), .int .i64 (b : Int)] w fun e w' => e = .returned (.int .i64 (Nat.gcd a b : Int)) ∧ Pushed w w' := by
  obtain ⟨g, hg⟩ : ∃ g, g = Nat.gcd a b := ⟨_, rfl⟩
  rw [← hg]
  have HG := Lib.hid hg
  clear hg ha hb
  go_enter Tryd.func29, Tryd.ntmps29
  go_wp2_with fail
  go_loopw [0, 1] (fun p q wr => ∃ x y : Nat, Nat.gcd x y = g ∧ p = .int .i64 (x : Int) ∧ q = .int .i64 (y : Int) ∧ Pushed w wr) (fun _ q _ => (intOf q).toNat)
  case atStart => exact ⟨a, b, HG.out.symm, rfl, rfl, Pushed.refl _⟩
  case round =>
    obtain ⟨x, y, hxy, rfl, rfl, hP⟩ := hrel
    have HX := Lib.hid hxy
    have HP := Lib.hid hP
    clear hxy hP
    by_cases h0 : y = 0
    · subst h0
      go_wp2
      go_ret
      exact ⟨ret_int (by rw [← HX.out, Nat.gcd_zero_right]), HP.out⟩
    · have e0 : ((y : Int) != 0) = true := by simp; omega
      have e1 : ((y : Int) == 0) = false := by simp; omega
      have hne : ¬ (y : Int) = 0 := by omega
      have hm : (x : Int).tmod (y : Int) = ((x % y : Nat) : Int) := by rw [Int.tmod_eq_emod_of_nonneg (by omega)]; rfl
      have hlt : x % y < y := Nat.mod_lt _ (by omega)
      have HQ : Hid (Nat.gcd y (x % y) = g) := Lib.hid (by rw [← HX.out, Nat.gcd_comm x y, Nat.gcd_rec y x, Nat.gcd_comm])
      generalize x % y = z at *
      go_wp2_with fail
      go_quiet (fail)
      go_wp2
      exact ⟨⟨y, z, HQ.out, rfl, rfl, HP.out.drewN _⟩, by simp [intOf]; omega⟩
set_option maxHeartbeats 800000 in
theorem rdiv_any (a b : Nat) (ha : (a : Int) ≤ 9223372036854775807) (hb : (b : Int) ≤ 9223372036854775807) (w : World) : Calls Tryd.prog 30 #[.int .i64 (a : Int), .int .i64 (b : Int)] w fun e w' => e = .returned (.int .i64 (Nat.gcd a b : Int)) ∧ Pushed w w' := by
  obtain ⟨g, hg⟩ : ∃ g, g = Nat.gcd a b := ⟨_, rfl⟩
  rw [← hg]
  have HG := Lib.hid hg
  clear hg ha hb
  go_enter Tryd.func30, Tryd.ntmps30
  go_wp2_with fail
  go_loopw [0, 1] (fun p q wr => ∃ x y : Nat, Nat.gcd x y = g ∧ p = .int .i64 (x : Int) ∧ q = .int .i64 (y : Int) ∧ Pushed w wr) (fun _ q _ => (intOf q).toNat)
  case atStart => exact ⟨a, b, HG.out.symm, rfl, rfl, Pushed.refl _⟩
  case round =>
    obtain ⟨x, y, hxy, rfl, rfl, hP⟩ := hrel
    have HX := Lib.hid hxy
    have HP := Lib.hid hP
    clear hxy hP
    by_cases h0 : y = 0
    · subst h0
      go_wp2
      go_ret
      exact ⟨ret_int (by rw [← HX.out, Nat.gcd_zero_right]), HP.out⟩
    · have e0 : ((y : Int) != 0) = true := by simp; omega
      have e1 : ((y : Int) == 0) = false := by simp; omega
      have hne : ¬ (y : Int) = 0 := by omega
      have hm : (x : Int).tmod (y : Int) = ((x % y : Nat) : Int) := by rw [Int.tmod_eq_emod_of_nonneg (by omega)]; rfl
      have hlt : x % y < y := Nat.mod_lt _ (by omega)
      have HQ : Hid (Nat.gcd y (x % y) = g) := Lib.hid (by rw [← HX.out, Nat.gcd_comm x y, Nat.gcd_rec y x, Nat.gcd_comm])
      generalize x % y = z at *
      go_wp2_with fail
      exact ⟨⟨y, z, HQ.out, rfl, rfl, HP.out⟩, by simp [intOf]; omega⟩
theorem red_low (a b : Int) (h : a < 1 ∨ b < 1) (w : World) : Calls Tryd.prog 11 #[.int .i64 a, .int .i64 b] w fun e w' => e = .returned (.tuple #[.int .i64 a, .int .i64 b]) ∧ Pushed w w' := by
  by_cases h1 : a < 1
  · clear h
    go_enter Tryd.func11, Tryd.ntmps11
    go_wp2
    go_ret2
    exact ⟨rfl, Pushed.refl _⟩
  · have h2 : b < 1 := by omega
    clear h
    go_enter Tryd.func11, Tryd.ntmps11
    go_wp2
    go_ret2
    exact ⟨rfl, Pushed.refl _⟩
set_option maxHeartbeats 800000 in
theorem red_ok (a b : Nat) (ha : 1 ≤ a) (hb : 1 ≤ b) (ga : (a : Int) ≤ 9223372036854775807) (gb : (b : Int) ≤ 9223372036854775807) (w : World) : Calls Tryd.prog 11 #[.int .i64 (a : Int), .int .i64 (b : Int)] w fun e w' => e = .returned (.tuple #[.int .i64 (rdN a b : Int), .int .i64 (rdD a b : Int)]) ∧ Pushed w w' := by
  have HD := Lib.hid (div_any a b ga gb w)
  have h1 : ¬ (a : Int) < 1 := by omega
  have h2 : ¬ (b : Int) < 1 := by omega
  have hg := gcd_pos (b := b) ha
  have H1 : Hid (rdN a b = a / Nat.gcd a b) := Lib.hid rfl
  have H2 : Hid (rdD a b = b / Nat.gcd a b) := Lib.hid rfl
  generalize Nat.gcd a b = g at *
  have hne : ¬ (g : Int) = 0 := by omega
  have he : ((g : Int) == 0) = false := by simp; omega
  have t1 : (a : Int).tdiv (g : Int) = ((a / g : Nat) : Int) := by rw [Int.tdiv_eq_ediv_of_nonneg (by omega)]; rfl
  have t2 : (b : Int).tdiv (g : Int) = ((b / g : Nat) : Int) := by rw [Int.tdiv_eq_ediv_of_nonneg (by omega)]; rfl
  have l1 : a / g ≤ a := Nat.div_le_self _ _
  have l2 : b / g ≤ b := Nat.div_le_self _ _
  rw [H1.out, H2.out]
  clear H1 H2
  generalize a / g = p at *
  generalize b / g = q at *
  have w1 : wrap64 (p : Int) = (p : Int) := IntWalk.wrap64_in _ (by omega)
  have w2 : wrap64 (q : Int) = (q : Int) := IntWalk.wrap64_in _ (by omega)
  have w3 : IntKind.i64.wrap (p : Int) = (p : Int) := IntWalk.i64_in _ (by omega)
  have w4 : IntKind.i64.wrap (q : Int) = (q : Int) := IntWalk.i64_in _ (by omega)
  clear ga gb l1 l2
  go_enter Tryd.func11, Tryd.ntmps11
  go_wp2_with fail
  refine HD.out.mono ?_
  rintro e w' ⟨rfl, hP⟩
  go_wp2_with fail
  go_quiet (fail)
  go_wp2
  go_ret2
  exact ⟨rfl, hP.drewN _⟩
theorem rred_low (a b : Int) (h : a < 1 ∨ b < 1) (w : World) : Calls Tryd.prog 12 #[.int .i64 a, .int .i64 b] w fun e w' => e = .returned (.tuple #[.int .i64 a, .int .i64 b]) ∧ Pushed w w' := by
  by_cases h1 : a < 1
  · clear h
    go_enter Tryd.func12, Tryd.ntmps12
    go_wp2
    go_ret2
    exact ⟨rfl, Pushed.refl _⟩
  · have h2 : b < 1 := by omega
    clear h
    go_enter Tryd.func12, Tryd.ntmps12
    go_wp2
    go_ret2
    exact ⟨rfl, Pushed.refl _⟩
set_option maxHeartbeats 800000 in
theorem rred_ok (a b : Nat) (ha : 1 ≤ a) (hb : 1 ≤ b) (ga : (a : Int) ≤ 9223372036854775807) (gb : (b : Int) ≤ 9223372036854775807) (w : World) : Calls Tryd.prog 12 #[.int .i64 (a : Int), .int .i64 (b : Int)] w fun e w' => e = .returned (.tuple #[.int .i64 (rdN a b : Int), .int .i64 (rdD a b : Int)]) ∧ Pushed w w' := by
  have HD := Lib.hid (rdiv_any a b ga gb w)
  have h1 : ¬ (a : Int) < 1 := by omega
  have h2 : ¬ (b : Int) < 1 := by omega
  have hg := gcd_pos (b := b) ha
  have H1 : Hid (rdN a b = a / Nat.gcd a b) := Lib.hid rfl
  have H2 : Hid (rdD a b = b / Nat.gcd a b) := Lib.hid rfl
  generalize Nat.gcd a b = g at *
  have hne : ¬ (g : Int) = 0 := by omega
  have he : ((g : Int) == 0) = false := by simp; omega
  have t1 : (a : Int).tdiv (g : Int) = ((a / g : Nat) : Int) := by rw [Int.tdiv_eq_ediv_of_nonneg (by omega)]; rfl
  have t2 : (b : Int).tdiv (g : Int) = ((b / g : Nat) : Int) := by rw [Int.tdiv_eq_ediv_of_nonneg (by omega)]; rfl
  have l1 : a / g ≤ a := Nat.div_le_self _ _
  have l2 : b / g ≤ b := Nat.div_le_self _ _
  rw [H1.out, H2.out]
  clear H1 H2
  generalize a / g = p at *
  generalize b / g = q at *
  have w1 : wrap64 (p : Int) = (p : Int) := IntWalk.wrap64_in _ (by omega)
  have w2 : wrap64 (q : Int) = (q : Int) := IntWalk.wrap64_in _ (by omega)
  have w3 : IntKind.i64.wrap (p : Int) = (p : Int) := IntWalk.i64_in _ (by omega)
  have w4 : IntKind.i64.wrap (q : Int) = (q : Int) := IntWalk.i64_in _ (by omega)
  clear ga gb l1 l2
  go_enter Tryd.func12, Tryd.ntmps12
  go_wp2_with fail
  refine HD.out.mono ?_
  rintro e w' ⟨rfl, hP⟩
  go_wp2_with fail
  go_quiet (fail)
  go_wp2
  go_ret2
  exact ⟨rfl, hP.drewN _⟩
end Go.Proofs.YtobnkfgikafanaaDoor

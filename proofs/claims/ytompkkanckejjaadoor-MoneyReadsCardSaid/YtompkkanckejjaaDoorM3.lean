/-
  CONTRACTS of rates: the specification's long division of a product (Divide of the amounts' specification).
-/
import Derived.Test.YtompkkanckejjaaDoorM2
namespace Go.Proofs.YtompkkanckejjaaDoor
open Go.RowKit
set_option linter.unusedVariables false
set_option linter.unusedSimpArgs false
def qLim (a N d lim : Nat) : Nat := if a * N / d ≤ lim then a * N / d else lim + 1
theorem long_eq (a N b d : Nat) : a * (2 * N + b) = d * (2 * (a * N / d)) + (2 * (a * N % d) + b * a) := by
  have h := Nat.div_add_mod (a * N) d
  have h1 : a * (2 * N + b) = 2 * (a * N) + b * a := by rw [Nat.mul_add, Nat.mul_left_comm, Nat.mul_comm a b]
  have h2 : d * (2 * (a * N / d)) = 2 * (d * (a * N / d)) := Nat.mul_left_comm _ _ _
  rw [h1, h2]
  omega
theorem long_mod (a N b d : Nat) : (2 * (a * N % d) + b * a) % d = a * (2 * N + b) % d := by
  rw [long_eq a N b d, Nat.mul_add_mod]
theorem long_div (a N b d lim : Nat) (hd : 1 ≤ d) : (if 2 * qLim a N d lim + (2 * (a * N % d) + b * a) / d ≤ lim then 2 * qLim a N d lim + (2 * (a * N % d) + b * a) / d else lim + 1) = qLim a (2 * N + b) d lim := by
  have h : a * (2 * N + b) / d = 2 * (a * N / d) + (2 * (a * N % d) + b * a) / d := by
    rw [long_eq a N b d, Nat.mul_add_div hd]
  unfold qLim
  rw [h]
  generalize a * N / d = Q
  generalize (2 * (a * N % d) + b * a) / d = X
  (repeat' split) <;> omega
theorem half_pow (n j : Nat) : n / 2 ^ j = 2 * (n / 2 ^ (j + 1)) + n / 2 ^ j % 2 := by
  rw [Nat.pow_succ, ← Nat.div_div_eq_div_mul]
  omega
theorem i64_and_nat (a b : Nat) (ha : a < 9223372036854775808) (hb : b < 9223372036854775808) : bits .and .i64 (a : Int) (b : Int) = ((a &&& b : Nat) : Int) := by
  have hx : a &&& b < 9223372036854775808 := Nat.lt_of_le_of_lt Nat.and_le_left ha
  show IntKind.i64.wrap ((BitVec.ofInt 64 (a : Int) &&& BitVec.ofInt 64 (b : Int)).toNat : Int) = _
  rw [BitVec.toNat_and, ofInt_u64 a (by omega), ofInt_u64 b (by omega)]
  exact IntWalk.i64_in _ (by omega)
theorem qLim_le (a N d lim : Nat) : qLim a N d lim ≤ lim + 1 := by
  unfold qLim
  generalize a * N / d = x
  split <;> omega
theorem bit_eq (x b : Nat) (hx : x < 9223372036854775808) (h : x % 2 = b) : (bits .and .i64 (x : Int) 1 == 1) = (b == 1) := by
  rw [show (1 : Int) = ((1 : Nat) : Int) from rfl, i64_and_nat x 1 hx (by omega), Nat.and_one_is_mod, h]
  rcases Nat.mod_two_eq_zero_or_one x with h0 | h0
  · rw [h] at h0; subst h0; rfl
  · rw [h] at h0; subst h0; rfl
set_option maxRecDepth 8000 in
set_option maxHeartbeats 3200000 in
theorem rdivide_any (a n d lim : Nat) (ha : a ≤ 4503599627370496) (hn : n ≤ 1099511627776) (hd : 1 ≤ d) (hd2 : d ≤ 1099511627776) (hl : lim ≤ 4503599627370496) (w : World) :
    Calls Tryd.prog 40 #[.int .i64 (a : Int), .int .i64 (n : Int), .int .i64 (d : Int), .int .i64 (lim : Int)] w fun x w' => x = .returned (.tuple #[.int .i64 (qLim a n d lim : Int), .int .i64 ((a * n % d : Nat) : Int)]) ∧ Pushed w w' := by
  go_enter Tryd.func40, Tryd.ntmps40
  go_wp2_with fail
  go_loopw [10, 11, 12] (fun q r i wr => ∃ (k : Nat) (z : Int), k ≤ 53 ∧ i = .int .i64 z ∧ z = (k : Int) - 1 ∧ q = .int .i64 (qLim a (n / 2 ^ k) d lim : Int) ∧ r = .int .i64 ((a * (n / 2 ^ k) % d : Nat) : Int) ∧ Pushed w wr) (fun _ _ i _ => (intOf i + 1).toNat)
  case atStart =>
    have h0 : n / 2 ^ 53 = 0 := Nat.div_eq_of_lt (by omega)
    refine ⟨53, 52, Nat.le_refl _, rfl, by decide, ?_, ?_, Pushed.refl _⟩
    · rw [h0, qLim, Nat.mul_zero, Nat.zero_div, if_pos (Nat.zero_le _)]; rfl
    · rw [h0, Nat.mul_zero, Nat.zero_mod]; rfl
  case round =>
    obtain ⟨k, z, hk, rfl, hz, rfl, rfl, hP⟩ := hrel
    have HP := Lib.hid hP
    clear hP
    cases k with
    | zero =>
      obtain rfl : z = -1 := by omega
      clear hz
      rw [Nat.pow_zero, Nat.div_one]
      go_wp2
      go_ret2
      exact ⟨rfl, HP.out⟩
    | succ j =>
      obtain rfl : z = (j : Int) := by omega
      clear hz
      have hm := half_pow n j
      have hsmall : n / 2 ^ j ≤ n := Nat.div_le_self _ _
      have hb := bit_eq (n / 2 ^ j) (n / 2 ^ j % 2) (by omega) rfl
      have hcast : (n : Int) / 2 ^ j = ((n / 2 ^ j : Nat) : Int) := by simp
      have hQ := qLim_le a (n / 2 ^ (j + 1)) d lim
      have hR : a * (n / 2 ^ (j + 1)) % d < d := Nat.mod_lt _ hd
      have hstep := long_div a (n / 2 ^ (j + 1)) (n / 2 ^ j % 2) d lim hd
      have hmod := long_mod a (n / 2 ^ (j + 1)) (n / 2 ^ j % 2) d
      rw [← hm] at hstep hmod
      rw [← hcast] at hb
      clear hm hcast hsmall
      generalize qLim a (n / 2 ^ (j + 1)) d lim = Q at *
      generalize a * (n / 2 ^ (j + 1)) % d = R at *
      rcases Nat.mod_two_eq_zero_or_one (n / 2 ^ j) with hz | hz
      · rw [hz] at hb hstep hmod
        replace hb : (bits .and .i64 ((n : Int) / 2 ^ j) 1 == 1) = false := hb
        clear hz
        have ht : (2 * (R : Int)).tdiv (d : Int) = (((2 * R) / d : Nat) : Int) := by
          rw [show 2 * (R : Int) = ((2 * R : Nat) : Int) by simp, Int.tdiv_eq_ediv_of_nonneg (by omega)]; rfl
        have hu : (2 * (R : Int)).tmod (d : Int) = (((2 * R) % d : Nat) : Int) := by
          rw [show 2 * (R : Int) = ((2 * R : Nat) : Int) by simp, Int.tmod_eq_emod_of_nonneg (by omega)]; rfl
        have hX : (2 * R) / d ≤ 2 * R := Nat.div_le_self _ _
        have hY : (2 * R) % d < d := Nat.mod_lt _ hd
        rw [show 2 * R + 0 * a = 2 * R by omega] at hstep hmod
        generalize (2 * R) / d = X at *
        generalize (2 * R) % d = Y at *
        have HQ := Lib.hid hstep
        have HM := Lib.hid hmod
        clear hstep hmod
        by_cases hle : 2 * Q + X ≤ lim
        · have g : ¬ (lim : Int) < 2 * (Q : Int) + (X : Int) := by omega
          have HF : Hid (2 * Q + X = qLim a (n / 2 ^ j) d lim) := Lib.hid (by rw [← HQ.out, if_pos hle])
          clear HQ hle
          go_wp2
          exact ⟨⟨j, (j : Int) - 1, by omega, rfl, rfl, by rw [← HF.out]; congr 1, by rw [← HM.out], HP.out⟩, by simp [intOf]⟩
        · have g : (lim : Int) < 2 * (Q : Int) + (X : Int) := by omega
          have HF : Hid (lim + 1 = qLim a (n / 2 ^ j) d lim) := Lib.hid (by rw [← HQ.out, if_neg hle])
          clear HQ hle
          go_wp2
          exact ⟨⟨j, (j : Int) - 1, by omega, rfl, rfl, by rw [← HF.out]; congr 1, by rw [← HM.out], HP.out⟩, by simp [intOf]⟩
      · rw [hz] at hb hstep hmod
        replace hb : (bits .and .i64 ((n : Int) / 2 ^ j) 1 == 1) = true := hb
        clear hz
        have ht : (2 * (R : Int) + (a : Int)).tdiv (d : Int) = (((2 * R + a) / d : Nat) : Int) := by
          rw [show 2 * (R : Int) + (a : Int) = ((2 * R + a : Nat) : Int) by simp, Int.tdiv_eq_ediv_of_nonneg (by omega)]; rfl
        have hu : (2 * (R : Int) + (a : Int)).tmod (d : Int) = (((2 * R + a) % d : Nat) : Int) := by
          rw [show 2 * (R : Int) + (a : Int) = ((2 * R + a : Nat) : Int) by simp, Int.tmod_eq_emod_of_nonneg (by omega)]; rfl
        have hX : (2 * R + a) / d ≤ 2 * R + a := Nat.div_le_self _ _
        have hY : (2 * R + a) % d < d := Nat.mod_lt _ hd
        rw [show 2 * R + 1 * a = 2 * R + a by omega] at hstep hmod
        generalize (2 * R + a) / d = X at *
        generalize (2 * R + a) % d = Y at *
        have HQ := Lib.hid hstep
        have HM := Lib.hid hmod
        clear hstep hmod
        by_cases hle : 2 * Q + X ≤ lim
        · have g : ¬ (lim : Int) < 2 * (Q : Int) + (X : Int) := by omega
          have HF : Hid (2 * Q + X = qLim a (n / 2 ^ j) d lim) := Lib.hid (by rw [← HQ.out, if_pos hle])
          clear HQ hle
          go_wp2
          exact ⟨⟨j, (j : Int) - 1, by omega, rfl, rfl, by rw [← HF.out]; congr 1, by rw [← HM.out], HP.out⟩, by simp [intOf]⟩
        · have g : (lim : Int) < 2 * (Q : Int) + (X : Int) := by omega
          have HF : Hid (lim + 1 = qLim a (n / 2 ^ j) d lim) := Lib.hid (by rw [← HQ.out, if_neg hle])
          clear HQ hle
          go_wp2
          exact ⟨⟨j, (j : Int) - 1, by omega, rfl, rfl, by rw [← HF.out]; congr 1, by rw [← HM.out], HP.out⟩, by simp [intOf]⟩
def rndR (q r d : Nat) (mode : Int) : Nat := if upB q r d mode = true then q + 1 else q
set_option maxRecDepth 8000 in
set_option maxHeartbeats 3200000 in
theorem rround_any (q r d : Nat) (mode : Int) (hq : q ≤ 4503599627370497) (hr : r ≤ 1099511627776) (hd : d ≤ 1099511627776) {v : Int} (HB : Hid ((rndR q r d mode : Int) = v)) (w : World) : Calls Tryd.prog 41 #[.int .i64 (q : Int), .int .i64 (r : Int), .int .i64 (d : Int), .int .i64 mode] w fun x w' => x = .returned (.int .i64 v) ∧ Pushed w w' := by
  have r0 : 0 ≤ (r : Int) := by omega
  have r1 : (r : Int) ≤ 1099511627776 := by omega
  have d0 : 0 ≤ (d : Int) := by omega
  have q0 : 0 ≤ (q : Int) := by omega
  have q1 : (q : Int) ≤ 4503599627370497 := by omega
  by_cases m2 : mode = 2
  · subst m2
    by_cases g : 0 < r
    · have g1 : 0 < (r : Int) := by omega
      have HE : Hid ((q : Int) + 1 = v) := Lib.hid (by rw [← HB.out, rndR, if_pos (by unfold upB; simp [g])]; rfl)
      clear HB hq hr hd g
      generalize (r : Int) = r at *
      generalize (q : Int) = q at *
      generalize (d : Int) = d at *
      go_enter Tryd.func41, Tryd.ntmps41
      go_wp2
      go_ret
      exact ⟨ret_int HE.out, (by repeat (first | with_reducible exact Pushed.refl _ | with_reducible assumption | with_reducible refine Pushed.alloc ?_ _ | with_reducible refine Pushed.drewN ?_ _ | with_reducible refine Pushed.drew ?_))⟩
    · have g1 : ¬ 0 < (r : Int) := by omega
      have HE : Hid ((q : Int) = v) := Lib.hid (by rw [← HB.out, rndR, if_neg (by unfold upB; simp [g])])
      clear HB hq hr hd g
      generalize (r : Int) = r at *
      generalize (q : Int) = q at *
      generalize (d : Int) = d at *
      go_enter Tryd.func41, Tryd.ntmps41
      go_wp2
      go_ret
      exact ⟨ret_int HE.out, (by repeat (first | with_reducible exact Pushed.refl _ | with_reducible assumption | with_reducible refine Pushed.alloc ?_ _ | with_reducible refine Pushed.drewN ?_ _ | with_reducible refine Pushed.drew ?_))⟩
  by_cases m3 : mode = 3
  · subst m3
    by_cases g : d ≤ 2 * r
    · have g1 : (d : Int) ≤ 2 * (r : Int) := by omega
      have HE : Hid ((q : Int) + 1 = v) := Lib.hid (by rw [← HB.out, rndR, if_pos (by unfold upB; simp [g])]; rfl)
      clear HB hq hr hd g
      generalize (r : Int) = r at *
      generalize (q : Int) = q at *
      generalize (d : Int) = d at *
      go_enter Tryd.func41, Tryd.ntmps41
      go_wp2
      go_ret
      exact ⟨ret_int HE.out, (by repeat (first | with_reducible exact Pushed.refl _ | with_reducible assumption | with_reducible refine Pushed.alloc ?_ _ | with_reducible refine Pushed.drewN ?_ _ | with_reducible refine Pushed.drew ?_))⟩
    · have g1 : ¬ (d : Int) ≤ 2 * (r : Int) := by omega
      have HE : Hid ((q : Int) = v) := Lib.hid (by rw [← HB.out, rndR, if_neg (by unfold upB; simp [g])])
      clear HB hq hr hd g
      generalize (r : Int) = r at *
      generalize (q : Int) = q at *
      generalize (d : Int) = d at *
      go_enter Tryd.func41, Tryd.ntmps41
      go_wp2
      go_ret
      exact ⟨ret_int HE.out, (by repeat (first | with_reducible exact Pushed.refl _ | with_reducible assumption | with_reducible refine Pushed.alloc ?_ _ | with_reducible refine Pushed.drewN ?_ _ | with_reducible refine Pushed.drew ?_))⟩
  by_cases m4 : mode = 4
  · subst m4
    by_cases g : d < 2 * r
    · have g1 : (d : Int) < 2 * (r : Int) := by omega
      have HE : Hid ((q : Int) + 1 = v) := Lib.hid (by rw [← HB.out, rndR, if_pos (by unfold upB; simp [g])]; rfl)
      clear HB hq hr hd g
      generalize (r : Int) = r at *
      generalize (q : Int) = q at *
      generalize (d : Int) = d at *
      go_enter Tryd.func41, Tryd.ntmps41
      go_wp2
      go_ret
      exact ⟨ret_int HE.out, (by repeat (first | with_reducible exact Pushed.refl _ | with_reducible assumption | with_reducible refine Pushed.alloc ?_ _ | with_reducible refine Pushed.drewN ?_ _ | with_reducible refine Pushed.drew ?_))⟩
    · have g1 : ¬ (d : Int) < 2 * (r : Int) := by omega
      by_cases k : 2 * r = d
      · have k1 : (2 * (r : Int) == (d : Int)) = true := by simp; omega
        by_cases j : q % 2 = 1
        · have j1 : ((q : Int) % 2 == 1) = true := by simp; omega
          have j2 : ((q : Int).tmod 2 == 1) = true := by rw [Int.tmod_eq_emod_of_nonneg q0]; exact j1
          have HE : Hid ((q : Int) + 1 = v) := Lib.hid (by rw [← HB.out, rndR, if_pos (by unfold upB; simp [g, k, j])]; rfl)
          clear HB hq hr hd g k j
          generalize (r : Int) = r at *
          generalize (q : Int) = q at *
          generalize (d : Int) = d at *
          go_enter Tryd.func41, Tryd.ntmps41
          go_wp2
          go_ret
          exact ⟨ret_int HE.out, (by repeat (first | with_reducible exact Pushed.refl _ | with_reducible assumption | with_reducible refine Pushed.alloc ?_ _ | with_reducible refine Pushed.drewN ?_ _ | with_reducible refine Pushed.drew ?_))⟩
        · have j1 : ((q : Int) % 2 == 1) = false := by simp; omega
          have j2 : ((q : Int).tmod 2 == 1) = false := by rw [Int.tmod_eq_emod_of_nonneg q0]; exact j1
          have HE : Hid ((q : Int) = v) := Lib.hid (by rw [← HB.out, rndR, if_neg (by unfold upB; simp [g, k, j])])
          clear HB hq hr hd g k j
          generalize (r : Int) = r at *
          generalize (q : Int) = q at *
          generalize (d : Int) = d at *
          go_enter Tryd.func41, Tryd.ntmps41
          go_wp2
          go_ret
          exact ⟨ret_int HE.out, (by repeat (first | with_reducible exact Pushed.refl _ | with_reducible assumption | with_reducible refine Pushed.alloc ?_ _ | with_reducible refine Pushed.drewN ?_ _ | with_reducible refine Pushed.drew ?_))⟩
      · have k1 : (2 * (r : Int) == (d : Int)) = false := by simp; omega
        have HE : Hid ((q : Int) = v) := Lib.hid (by rw [← HB.out, rndR, if_neg (by unfold upB; simp [g, k])])
        clear HB hq hr hd g k
        generalize (r : Int) = r at *
        generalize (q : Int) = q at *
        generalize (d : Int) = d at *
        go_enter Tryd.func41, Tryd.ntmps41
        go_wp2
        go_ret
        exact ⟨ret_int HE.out, (by repeat (first | with_reducible exact Pushed.refl _ | with_reducible assumption | with_reducible refine Pushed.alloc ?_ _ | with_reducible refine Pushed.drewN ?_ _ | with_reducible refine Pushed.drew ?_))⟩
  · have e2 : (mode == 2) = false := by simp [m2]
    have e3 : (mode == 3) = false := by simp [m3]
    have e4 : (mode == 4) = false := by simp [m4]
    have HE : Hid ((q : Int) = v) := Lib.hid (by rw [← HB.out, rndR, if_neg (by unfold upB; simp [m2, m3, m4])])
    clear HB hq hr hd m2 m3 m4
    generalize (r : Int) = r at *
    generalize (q : Int) = q at *
    generalize (d : Int) = d at *
    go_enter Tryd.func41, Tryd.ntmps41
    go_wp2
    go_ret
    exact ⟨ret_int HE.out, (by repeat (first | with_reducible exact Pushed.refl _ | with_reducible assumption | with_reducible refine Pushed.alloc ?_ _ | with_reducible refine Pushed.drewN ?_ _ | with_reducible refine Pushed.drew ?_))⟩
set_option maxHeartbeats 1600000 in
theorem iscur_yes (s : ByteArray) (h : curP s) (w : World) : Calls Tryd.prog 35 #[.string s] w fun e w' => e = .returned (.bool true) ∧ w = w' := by
  obtain ⟨hs, hc⟩ := h
  have HC := Lib.hid hc
  clear hc
  go_enter Tryd.func35, Tryd.ntmps35
  go_wp2_with fail
  go_loop [3] (fun i => ∃ k : Nat, k ≤ 3 ∧ i = .int .i64 (k : Int)) (fun i => 3 - (intOf i).toNat)
  case atStart => exact ⟨0, by decide, rfl⟩
  case round =>
    obtain ⟨k, hk, rfl⟩ := hrel
    by_cases hlt : k < 3
    · have hix := fun w => ix_at s k (by omega) (i := (k : Int)) rfl w
      obtain ⟨c0, c1⟩ := HC.out k hlt
      generalize byt s k = c at *
      have g0 : ¬ c < 65 := by omega
      have g1 : ¬ 90 < c := by omega
      have g2 : (k : Int) < 3 := by omega
      go_wp2
      go_round
      case rel => exact ⟨k + 1, by omega, by go_num⟩
      case measure => simp [intOf]; omega
    · obtain rfl : k = 3 := by omega
      go_wp2
      go_ret
      exact ⟨rfl, rfl⟩
set_option maxHeartbeats 1600000 in
theorem iscur_no (s : ByteArray) (hs : s.size ≤ 9223372036854775807) (h : ¬ curP s) (w : World) : Calls Tryd.prog 35 #[.string s] w fun e w' => e = .returned (.bool false) ∧ w = w' := by
  have HN := Lib.hid h
  clear h
  go_enter Tryd.func35, Tryd.ntmps35
  go_wp2_with fail
  go_loop [3] (fun i => ∃ k : Nat, k ≤ s.size ∧ k ≤ 3 ∧ i = .int .i64 (k : Int) ∧ ∀ j, j < k → capAt s j) (fun i => 3 - (intOf i).toNat)
  case atStart => exact ⟨0, Nat.zero_le _, Nat.zero_le _, rfl, fun j hj => absurd hj (by omega)⟩
  case round =>
    obtain ⟨k, hk, hk3, rfl, hall⟩ := hrel
    have HA := Lib.hid hall
    clear hall
    by_cases hlt : k < s.size
    · by_cases h3 : k < 3
      · have g2 : (k : Int) < 3 := by omega
        have hix := fun w => ix_at s k (by omega) (i := (k : Int)) rfl w
        by_cases hc : capAt s k
        · have HC := Lib.hid (caps_snoc HA.out hc)
          obtain ⟨c0, c1⟩ := hc
          generalize byt s k = c at *
          have g0 : ¬ c < 65 := by omega
          have g1 : ¬ 90 < c := by omega
          go_wp2
          go_round
          case rel => exact ⟨k + 1, by omega, by omega, by go_num, HC.out⟩
          case measure => simp [intOf]; omega
        · unfold capAt at hc
          generalize byt s k = c at *
          by_cases g0 : c < 65
          · clear hc
            go_wp2
            go_ret
            exact ⟨rfl, rfl⟩
          · have g1 : 90 < c := by omega
            clear hc
            go_wp2
            go_ret
            exact ⟨rfl, rfl⟩
      · obtain rfl : k = 3 := by omega
        have e3 : ((s.size : Int) == 3) = false := by
          simp only [beq_eq_false_iff_ne, ne_eq]
          intro h3
          exact HN.out ⟨by omega, fun j hj => HA.out j (by omega)⟩
        go_wp2
        go_ret
        exact ⟨rfl, rfl⟩
    · have e3 : ((s.size : Int) == 3) = false := by
        simp only [beq_eq_false_iff_ne, ne_eq]
        intro h3
        exact HN.out ⟨by omega, fun j hj => HA.out j (by omega)⟩
      go_wp2
      go_ret
      exact ⟨rfl, rfl⟩
theorem within_any (a : Int) {b : Bool} (HB : Hid (decide (-4503599627370496 ≤ a ∧ a ≤ 4503599627370496) = b)) (w : World) : Calls Tryd.prog 32 #[.int .i64 a] w fun x w' => x = .returned (.bool b) ∧ w = w' := by
  by_cases g0 : -4503599627370496 ≤ a
  · by_cases g1 : a ≤ 4503599627370496
    · have HE : Hid (true = b) := Lib.hid (by rw [← HB.out, decide_eq_true ⟨g0, g1⟩])
      clear HB
      go_enter Tryd.func32, Tryd.ntmps32
      go_wp2
      go_ret
      exact ⟨ret_bool HE.out, rfl⟩
    · have HE : Hid (false = b) := Lib.hid (by rw [← HB.out, decide_eq_false (fun h => g1 h.2)])
      have g2 : decide (a ≤ 4503599627370496) = false := decide_eq_false g1
      clear HB
      go_enter Tryd.func32, Tryd.ntmps32
      go_wp2
      go_ret
      exact ⟨ret_bool (by rw [← HE.out] <;> first | rfl | exact g2 | (simp; omega)), rfl⟩
  · have HE : Hid (false = b) := Lib.hid (by rw [← HB.out, decide_eq_false (fun h => g0 h.1)])
    clear HB
    go_enter Tryd.func32, Tryd.ntmps32
    go_wp2
    go_ret
    exact ⟨ret_bool (by rw [← HE.out] <;> first | rfl | (simp; omega)), rfl⟩
set_option maxHeartbeats 1600000 in
theorem rmchk_any (a : Int) (c : ByteArray) (hc : c.size ≤ 9223372036854775807) {e : Int} (H : Hid (mchkR a c = e)) (w : World) : Calls Tryd.prog 17 #[.agg #[.int .i64 a, .string c]] w fun x w' => x = .returned (.int .i64 e) ∧ Pushed w w' := by
  by_cases h1 : curP c
  case neg =>
    have HE : Hid (11 = e) := Lib.hid (by rw [← H.out, mchkR, if_neg h1])
    have A := Lib.hid (fun w => iscur_no c hc h1 w)
    clear h1 H
    go_enter Tryd.func17, Tryd.ntmps17
    go_wp2_with fail
    refine (A.out _).mono ?_
    rintro x w1 ⟨rfl, rfl⟩
    go_wp2
    go_ret
    exact ⟨ret_int HE.out, (by repeat (first | with_reducible exact Pushed.refl _ | with_reducible assumption | with_reducible refine Pushed.alloc ?_ _ | with_reducible refine Pushed.drewN ?_ _ | with_reducible refine Pushed.drew ?_))⟩
  have A := Lib.hid (fun w => iscur_yes c h1 w)
  by_cases g : -4503599627370496 ≤ a ∧ a ≤ 4503599627370496
  case neg =>
    have HE : Hid (4 = e) := Lib.hid (by rw [← H.out, mchkR, if_pos h1, if_neg g])
    have B := Lib.hid (fun w => within_any a (Lib.hid (decide_eq_false g)) w)
    clear h1 H g
    go_enter Tryd.func17, Tryd.ntmps17
    go_wp2_with fail
    refine (A.out _).mono ?_
    rintro x w1 ⟨rfl, rfl⟩
    go_wp2_with fail
    refine (B.out _).mono ?_
    rintro x w2 ⟨rfl, rfl⟩
    go_wp2
    go_ret
    exact ⟨ret_int HE.out, (by repeat (first | with_reducible exact Pushed.refl _ | with_reducible assumption | with_reducible refine Pushed.alloc ?_ _ | with_reducible refine Pushed.drewN ?_ _ | with_reducible refine Pushed.drew ?_))⟩
  have HE : Hid (0 = e) := Lib.hid (by rw [← H.out, mchkR, if_pos h1, if_pos g])
  have B := Lib.hid (fun w => within_any a (Lib.hid (decide_eq_true g)) w)
  clear h1 H g
  go_enter Tryd.func17, Tryd.ntmps17
  go_wp2_with fail
  refine (A.out _).mono ?_
  rintro x w1 ⟨rfl, rfl⟩
  go_wp2_with fail
  refine (B.out _).mono ?_
  rintro x w2 ⟨rfl, rfl⟩
  go_wp2
  go_ret
  exact ⟨ret_int HE.out, (by repeat (first | with_reducible exact Pushed.refl _ | with_reducible assumption | with_reducible refine Pushed.alloc ?_ _ | with_reducible refine Pushed.drewN ?_ _ | with_reducible refine Pushed.drew ?_))⟩
end Go.Proofs.YtompkkanckejjaaDoor
